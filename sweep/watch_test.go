package sweep_test

import (
	"fmt"
	"slices"
	"testing"

	"strata/api"
	"strata/sweep"
	"strata/txtab"
)

// moment is what is looked at between two steps.
type moment struct {
	clock   uint64
	records []int
	live    []int
	claimed []int // slots
}

func (s *story) moment() moment {
	clock, _ := s.base.Tx.Horizon()
	m := moment{clock: clock, records: s.base.Tx.Live(), live: s.base.Cells.Live()}
	for _, slot := range m.live {
		if claim, _ := s.base.Cells.Load(slot, api.CellClaim); claim != 0 {
			m.claimed = append(m.claimed, slot)
		}
	}
	return m
}

// step makes a step of a life, and looks at what has to hold at every step.
func (s *story) step(t *testing.T, l *life) {
	if s.now.live == nil {
		s.now = s.moment()
	}
	old, accesses := s.now, s.accesses()
	m, done := l.step()
	if made := s.accesses() - accesses; made > 1 || made == 0 && !done {
		t.Fatalf("P8.4: a step of %T made %d accesses (the last: %v)", m, made, done)
	}
	if s.base.Misses() != 0 {
		t.Fatalf("P8.9: a step of %T met what is free", m)
	}
	s.now = s.moment()
	s.noteBegins(t, l, m, old)
	s.checkClaims(t, old)
	s.checkFreed(t, old)
}

// noteBegins keeps the begins of those at work, those of Passes too.
func (s *story) noteBegins(t *testing.T, l *life, m machine, old moment) {
	if l.sweeps && len(s.now.records) > len(old.records) {
		for _, id := range s.now.records {
			if !slices.Contains(old.records, id) {
				l.id = id
				if info, _ := s.base.Tx.Info(id); info != (api.TxInfo{}) {
					t.Fatalf("P8.7: a Pass's record holds %v", info)
				}
			}
		}
	}
	if _, starts := m.(*txtab.Start); s.now.clock > old.clock && (starts || l.sweeps) {
		s.begins[l] = s.now.clock
		if s.now.clock < s.highest {
			t.Fatalf("P8.8: one begins at %d, and a version that ends at %d was claimed", s.now.clock, s.highest)
		}
	}
	for x := range s.begins {
		if begin, _ := s.base.Tx.Announced(x.id); begin == 0 {
			delete(s.begins, x)
		}
	}
}

// checkClaims is P8.8 and the first half of P8.12.
func (s *story) checkClaims(t *testing.T, old moment) {
	for _, slot := range s.now.claimed {
		if slices.Contains(old.claimed, slot) {
			continue
		}
		turn, _ := s.base.Cells.Turn(slot)
		if _, again := s.claims[[2]int{slot, turn}]; again {
			t.Fatalf("P8.12: version %d was claimed twice", slot)
		}
		s.claims[[2]int{slot, turn}] = old.clock
		begin, end, _ := s.base.Words(slot)
		if begin == api.Infinity {
			continue
		}
		if begin > api.MaxTime || end > api.MaxTime {
			t.Fatalf("P8.8: a version from %d to %d was claimed", begin, end)
		}
		s.highest = max(s.highest, end)
		for x, at := range s.begins {
			if at < end {
				t.Fatalf("P8.8: a version that ends at %d was claimed, and %s is at work with the begin %d", end, x.name, at)
			}
		}
	}
	if n := s.sum((*sweep.Sweeper).Unlinked); n > len(s.claims) {
		t.Fatalf("P8.12: %d were unlinked, %d claimed", n, len(s.claims))
	}
}

// checkFreed looks at a slot that is free since this step: it was claimed, stands in no index, and nobody at work has begun ahead of that.
func (s *story) checkFreed(t *testing.T, old moment) {
	for _, slot := range old.live {
		if slices.Contains(s.now.live, slot) {
			continue
		}
		turn, _ := s.base.Cells.Turn(slot)
		since, claimed := s.claims[[2]int{slot, turn}]
		if !claimed {
			t.Fatalf("P8.12: slot %d was freed, and not claimed", slot)
		}
		for x, at := range s.begins {
			if at <= since {
				t.Fatalf("P8.9: slot %d was freed, which was claimed at %d, and %s is at work since %d", slot, since, x.name, at)
			}
		}
		if slices.Contains(s.linked(), slot) {
			t.Fatalf("P8.12: slot %d was freed while it was linked", slot)
		}
	}
	unlinked, freed, limbo := s.sum((*sweep.Sweeper).Unlinked), s.sum((*sweep.Sweeper).Freed), s.sum((*sweep.Sweeper).Limbo)
	if out := unlinked - freed - limbo; out < 0 || out > len(s.lives) {
		t.Fatalf("P8.2: unlinked %d, freed %d, in limbo %d", unlinked, freed, limbo)
	}
}

// linked tells the slots that stand in an index.
func (s *story) linked() []int {
	var all []int
	for bucket := range s.base.Hash.Buckets() {
		list, _ := s.base.Hash.List(bucket)
		all = append(all, list...)
	}
	for level := range api.MaxLevels {
		list, _ := s.base.Order.List(level)
		all = append(all, list...)
	}
	slices.Sort(all)
	return slices.Compact(all)
}

// alone steps a machine to its end, and tells its code.
func alone(t *testing.T, m machine) api.Errno {
	t.Helper()
	for n := 0; !m.Step(); n++ {
		if n > 100000 {
			t.Fatalf("a %T that is stepped alone is not done", m)
		}
	}
	return m.Code()
}

// contents tells what a transaction finds of each key; id 0 is nobody.
func (s *story) contents(t *testing.T, id int, at uint64, keys []string) string {
	t.Helper()
	text := ""
	for _, key := range keys {
		m := s.base.Find(id, key, at)
		e := alone(t, m)
		entry := api.Entry{}
		if m.Slot() != 0 {
			entry, _ = s.base.Cells.Payload(m.Slot())
		}
		text += fmt.Sprintf("%d %q %q; ", e, entry.Name, entry.Data)
	}
	return text
}

// finish looks at the end of a story, when all are done and have left: P8.11 and P8.12.
func (s *story) finish(t *testing.T, keys []string) {
	t.Helper()
	clock, _ := s.base.Tx.Horizon()
	last := s.contents(t, 0, clock, keys)
	if len(s.begins) > 0 {
		t.Fatalf("all are over, and %d are at work", len(s.begins))
	}
	for i, x := range s.sweepers {
		for range 2 {
			for bucket := range s.base.Hash.Buckets() {
				if e := alone(t, x.Pass(bucket)); e != api.OK {
					t.Fatalf("P8.11: a Pass answers %d", e)
				}
			}
			s.checkNoGarbage(t)
		}
		if x.Limbo() != 0 || x.Unlinked() != x.Freed() {
			t.Fatalf("P8.11: sweeper %d: in limbo %d, unlinked %d, freed %d", i, x.Limbo(), x.Unlinked(), x.Freed())
		}
	}
	made := 0
	for slot := 1; ; slot++ {
		turn, e := s.base.Cells.Turn(slot)
		if e != api.OK {
			break
		}
		made += turn
	}
	live := s.base.Cells.Live()
	if freed := s.sum((*sweep.Sweeper).Freed); freed != made-len(live) {
		t.Fatalf("P8.12: made %d, freed %d, in use %d", made, freed, len(live))
	}
	if linked := s.linked(); !slices.Equal(live, linked) {
		t.Fatalf("P8.11: in use %v, linked %v", live, linked)
	}
	if len(s.base.Tx.Live()) != 0 || s.base.Misses() != 0 {
		t.Fatalf("P8.9: records %v, misses %d", s.base.Tx.Live(), s.base.Misses())
	}
	if now := s.contents(t, 0, clock, keys); now != last {
		t.Fatalf("P8.10: at the end there was %s, and behind the sweeping %s", last, now)
	}
}

// checkNoGarbage looks at all that stands in an index.
func (s *story) checkNoGarbage(t *testing.T) {
	t.Helper()
	clock, _ := s.base.Tx.Horizon()
	for _, slot := range s.linked() {
		if begin, end, _ := s.base.Words(slot); begin == api.Infinity || end <= clock {
			t.Fatalf("P8.11: a version from %d to %d is still linked", begin, end)
		}
	}
}
