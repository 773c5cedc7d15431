package store_test

import (
	"fmt"
	"slices"
	"sort"
	"strings"
	"testing"

	"strata/api"
	"strata/redo"
	"strata/store"
	"strata/tongue"
)

// whole_test.go: the promises that hold over all layers, seen from above.

// keeper follows what a store has logged, and what of it is acknowledged.
type keeper struct {
	chain []api.Commit // all commits that are in the log, or may be, in its order
	acked int          // so many of them a sync has told of
	taken int          // of the engine's commits since the last restart
}

// rowsOf plays commits one behind the other.
func rowsOf(chain []api.Commit) []api.Row {
	rows := map[string]api.Row{}
	for _, c := range chain {
		for _, w := range c.Writes {
			if w.Kind == api.WritePut {
				rows[w.Key] = api.Row{Key: w.Key, Data: w.Data, Stamp: c.Stamp}
			} else {
				delete(rows, w.Key)
			}
		}
	}
	var list []api.Row
	for _, r := range rows {
		list = append(list, r)
	}
	sort.Slice(list, func(i, j int) bool { return list[i].Key < list[j].Key })
	return list
}

// follows looks at what a command was answered; what it tells is a fault. The engine is that of ahead of the command.
func (k *keeper) follows(s *store.Store, commits func(int) []api.Commit, r api.Reply) string {
	switch r.Kind {
	case api.CmPlay, api.CmDrain:
		more := commits(k.taken)
		k.taken += len(more)
		k.chain = append(k.chain, more...) // where the store fell, they may be in the log
	case api.CmSync, api.CmCheckpoint:
		if r.Kind == api.CmSync && r.Code == api.OK {
			var stamps []int
			for _, c := range k.chain[k.acked:] {
				stamps = append(stamps, int(c.Stamp))
			}
			if !slices.Equal(stamps, r.Numbers) {
				return fmt.Sprintf("P17.4: SYNC tells %v, want %v", r.Numbers, stamps)
			}
		}
		if r.Code == api.OK || r.Code == api.ErrPairs || r.Code == api.ErrNumbers {
			k.acked = len(k.chain)
		}
	case api.CmRestart:
		if r.Code == api.OK {
			return k.back(s)
		}
	}
	return ""
}

// back looks at what has come back.
func (k *keeper) back(s *store.Store) string {
	_, _, tail := redo.Replay(s.Device())
	n := int(tail.Next) - 1
	if n < k.acked || n > len(k.chain) {
		return fmt.Sprintf("P0.5: %d commits are back of %d, %d were acknowledged", n, len(k.chain), k.acked)
	}
	k.chain, k.acked, k.taken = k.chain[:n], n, 0
	if got, right := fmt.Sprint(s.Rows()), fmt.Sprint(rowsOf(k.chain)); got != right {
		return fmt.Sprintf("P0.5: behind %d commits: %s\nwant\n%s", n, got, right)
	}
	return ""
}

// P0.5: whatever is played, cut and crashed: what comes back is what the first commits of the log play, at least those that a sync has told of.
func TestCrashesLeaveCommits(t *testing.T) {
	var all met
	inBatches(t, 2500, func(m *maker) string {
		setup := m.setup()
		setup.Engine.Slots, setup.Engine.TxSlots, setup.Engine.Coop = 200, 40, 1
		s := made(t, setup)
		teller, k, script := newTeller(m, setup), &keeper{}, ""
		for range 100 {
			line := teller.next(s.Down())
			script += line + ";\n"
			e := s.Engine()
			rs, _ := s.Play(commands(line)...)
			all.replies(rs)
			for _, r := range rs {
				if fault := k.follows(s, e.Commits, r); fault != "" {
					return fmt.Sprintf("%+v\n%s%s", setup, script, fault)
				}
			}
		}
		// And once more at the end, with each possible beginning.
		fault := ""
		crashes(s.Device(), func(d *redo.Device) {
			if m.one(20) && fault == "" {
				if o, code := store.Open(setup, d); code == api.OK {
					c := *k
					fault = c.back(o)
					all.add("opened")
				} else if code != api.ErrSpace {
					fault = fmt.Sprintf("P0.5: Open: %d", code)
				}
			}
		})
		return fault
	})
	all.atLeast(t, 500, "RESTART OK", "CRASH OK", "SYNC OK", "CHECKPOINT OK", "MERGE OK", "opened")
	all.atLeast(t, 50, "CHECKPOINT E117", "CHECKPOINT E118", "RESTART E117", "SYNC E118", "DRAIN E118")
}

// P0.5: that a COMMIT was OK says nothing of its being durable: only a sync does.
func TestOnlySyncsKeep(t *testing.T) {
	for last, right := range map[string]int{"FLUSH": 3, "SYNC": 4, "CHECKPOINT": 4, "DRAIN": 3} {
		s := made(t, chapterSetup())
		do(t, s, table+"SYNC; @1 INSERT INTO t VALUES (1, 1); DRAIN; "+last+"; CRASH; RESTART;")
		want(t, "P0.5: rows behind "+last, len(s.Rows()), right)
	}
}

// P0.2: a step makes at most one access; a statement or tick of n accesses takes n steps (one, if n is 0).
func TestSteps(t *testing.T) {
	inBatches(t, 300, func(m *maker) string {
		setup := m.setup()
		s := made(t, setup)
		teller := newTeller(m, setup)
		accesses := map[int]int{} // of what each worker is at
		for n := 0; n < 1200; {
			line := teller.next(s.Down())
			if strings.HasPrefix(line, "PLAY") || strings.HasPrefix(line, "DRAIN") {
				for range m.Intn(120) {
					who := m.Intn(setup.Engine.Sessions + 1)
					e := s.Engine()
					before := e.Accesses()
					rs, _ := s.Play(api.Command{Kind: api.CmPlay, Bytes: string([]byte{byte(who)})})
					n++
					made, own := e.Accesses()-before, rs[len(rs)-1]
					accesses[who] += made
					switch {
					case s.Down() || own.Numbers[0] == 0:
						accesses[who] = 0
					case made > 1, own.Numbers[0] != 1:
						return fmt.Sprintf("P0.2: a step of %d accesses: %+v", made, rs)
					case made == 0 && (len(rs) == 1 || accesses[who] > 0):
						return fmt.Sprintf("P0.2: a step without an access, and there were or will be others: %+v", rs)
					}
					if len(rs) > 1 {
						accesses[who] = 0
					}
					if s.Down() {
						break
					}
				}
				continue
			}
			s.Play(commands(line)...)
			if s.Down() || strings.HasPrefix(line, "RESTART") {
				clear(accesses)
			}
			n++
		}
		return ""
	})
}

// P0.7, P17.4: every statement and tick that is handed in has just one reply, and all are done by DRAINs, few of them; every other command has just one too.
func TestEveryReplyOnce(t *testing.T) {
	inBatches(t, 1500, func(m *maker) string {
		setup := m.setup()
		s := made(t, setup)
		teller, script := newTeller(m, setup), ""
		replies, ticks, number := map[int]int{}, map[int]int{}, 0
		play := func(line string) (last api.Reply) {
			script += line + ";\n"
			rs, _ := s.Play(commands(line)...)
			number++
			for _, r := range rs {
				if r.Kind == api.CmTick && strings.Contains(script, "PLAY") {
					ticks[r.Command]++
				}
				replies[r.Command]++
				last = r
			}
			return last
		}
		for range 80 {
			play(teller.next(s.Down()))
		}
		for n := 0; !s.Down(); n++ {
			if r := play("DRAIN"); r.Code == api.OK {
				break
			} else if r.Code == api.ErrBudget && n > 3 {
				return "P0.7: no end\n" + script
			}
		}
		for i, line := range strings.Split(strings.TrimSuffix(script, ";\n"), ";\n") {
			right := 1
			if strings.HasPrefix(line, "PLAY") {
				right += ticks[i]
			}
			if replies[i] != right {
				return fmt.Sprintf("P17.4: command %d, %s: %d replies\n%s", i, line, replies[i], script)
			}
		}
		if number != len(replies) {
			return "P17.4: the numbers of the commands"
		}
		return ""
	})
}

// stamps tells all stamps of replies, and puts zeros in their places.
func stamps(rs []api.Reply) []uint64 {
	var list []uint64
	for i := range rs {
		list = append(list, rs[i].Result.Stamp)
		rs[i].Result.Stamp, rs[i].Command, rs[i].Numbers = 0, 0, nil
	}
	return list
}

// inOrder tells of each stamp which place it has among all.
func inOrder(list []uint64) []int {
	sorted := slices.Compact(slices.Sorted(slices.Values(list)))
	var places []int
	for _, x := range list {
		place, _ := slices.BinarySearch(sorted, x)
		places = append(places, place)
	}
	return places
}

// P0.6: where each statement is run to its end, answers are the same with collects and without them, but for the stamps, whose order is the same.
func TestSweepingIsNotSeen(t *testing.T) {
	swept := 0
	inBatches(t, 600, func(m *maker) string {
		setup := roomySetup()
		setup.Engine.Slots = 3000
		bare := made(t, setup)
		setup.Engine.Coop = m.Intn(5)
		clean := made(t, setup)
		teller := newTeller(m, setup)
		var a, b []api.Reply
		for range 60 {
			line := teller.next(false)
			if !strings.HasPrefix(line, "@") {
				continue
			}
			one, _ := bare.Play(commands(line + "; DRAIN")...)
			other, _ := clean.Play(commands(line + "; DRAIN")...)
			a, b = append(a, one[0]), append(b, other[0])
			if m.one(2) {
				rs, _ := clean.Play(commands(fmt.Sprintf("TICK %d; DRAIN", 1+m.Intn(8)))...)
				if m.seed == 0 {
					swept += rs[0].Numbers[0]
				}
			}
		}
		one, other := inOrder(stamps(a)), inOrder(stamps(b))
		if got, right := fmt.Sprintf("%+v", b), fmt.Sprintf("%+v", a); got != right {
			return fmt.Sprintf("P0.6: %s\nwant\n%s", got, right)
		}
		if !slices.Equal(one, other) {
			return fmt.Sprintf("P0.6: the order of the stamps: %v, want %v", other, one)
		}
		if fmt.Sprint(plainRows(bare.Rows())) != fmt.Sprint(plainRows(clean.Rows())) {
			return "P0.6: the rows"
		}
		return ""
	})
	if swept == 0 {
		t.Errorf("nothing was swept")
	}
}

// P15.8, P17.13: a script that is printed and read again gives the same replies; so do its parts, one behind the other, and its commands handed to Play.
func TestPrintedScripts(t *testing.T) {
	inBatches(t, 500, func(m *maker) string {
		setup := m.setup()
		teller := newTeller(m, setup)
		var whole []string
		for range 60 {
			whole = append(whole, teller.next(false)+";")
		}
		script := strings.Join(whole, "\n")
		cs, _, _ := tongue.Parse(script)
		printed, code := tongue.Print(cs...)
		if code != api.OK {
			return fmt.Sprintf("Print: %d", code)
		}
		right, code := store.Run(setup, script)
		again, other := store.Run(setup, printed)
		parts, third := store.Run(setup, whole...)
		rs, _ := made(t, setup).Play(cs...)
		if code != api.OK || other != code || third != code || again != right || parts != right || store.Print(rs...) != right {
			return fmt.Sprintf("P17.13: %s: %d\n%s\nprinted:\n%s", script, code, right, again)
		}
		return ""
	})
}

// P17.9, P13.2: the same rows and replies whatever Workers is.
func TestWorkers(t *testing.T) {
	inBatches(t, 120, func(m *maker) string {
		setup := m.setup()
		teller := newTeller(m, setup)
		script := ""
		for range 80 {
			script += teller.next(m.one(6)) + ";\n"
		}
		script += "CRASH 9, 999, 999; RESTART;"
		right := ""
		for workers := 1; workers <= api.MaxWorkers; workers++ {
			setup.Workers = workers
			s := made(t, setup)
			rs, code, _ := s.Do(script)
			got := fmt.Sprintf("%s%d%v%s", store.Print(rs...), code, s.Rows(), dump(s.Device()))
			if workers == 1 {
				right = got
			}
			if got != right {
				return fmt.Sprintf("P17.9: %d workers: %s\nwant\n%s", workers, got, right)
			}
		}
		return ""
	})
}
