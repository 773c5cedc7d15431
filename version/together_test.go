package version_test

import (
	"fmt"
	"math/rand"
	"runtime"
	"slices"
	"sync"
	"testing"

	"strata/api"
	"strata/sched"
	"strata/txtab"
)

func see(slot int) deed      { return deed{kind: "see", slot: slot} }
func bar(slot int) deed      { return deed{kind: "bar", slot: slot} }
func find(key string) deed   { return deed{kind: "find", key: key} }
func insert(key string) deed { return deed{kind: "insert", key: key} }
func take(key string) deed   { return deed{kind: "take", key: key} }
func update(key string) deed { return deed{kind: "update", key: key} }
func commit() deed           { return deed{kind: "commit"} }
func prepare() deed          { return deed{kind: "prepare"} }
func abort() deed            { return deed{kind: "abort"} }

// work tells the lives that go on.
func (s *story) work() []*life {
	return slices.DeleteFunc(slices.Clone(s.lives), func(l *life) bool { return l.over })
}

// step makes a step of a life, and looks at what has to hold at every step.
func (s *story) step(t *testing.T, l *life) {
	t.Helper()
	accesses, misses := s.base.Accesses(), s.base.Misses()
	m, done := l.step()
	if made := s.base.Accesses() - accesses; made > 1 || made == 0 && !done {
		t.Fatalf("P7.11: a step of %T made %d accesses (the last: %v)", m, made, done)
	}
	if s.base.Misses() != misses {
		t.Fatalf("P7.15: a step of %T met what is free", m)
	}
}

// finish looks at the last words, when all have left.
func (s *story) finish(t *testing.T) {
	t.Helper()
	if fault := s.check(); fault != "" {
		t.Fatal(fault)
	}
	for _, l := range s.lives {
		if state, _, _ := s.base.Tx.Look(l.id); state != api.TxTerminated {
			t.Fatalf("a life is over in the state %d", state)
		}
	}
}

// plot is a story that is told in every order of its lives' steps.
type plot struct {
	name  string
	hurry bool // steps that no other life can meet are made in one go
	lay   func(s *story)
	ends  []string // what the lives have to have come to, each in some order
}

// upTo leads a life on alone, till so many deeds of its plan are not begun.
func (s *story) upTo(l *life, left int) *life {
	for len(l.plan) > left {
		l.step()
	}
	return l
}

// prepared leads a life on alone, till its end is drawn.
func (s *story) prepared(l *life) *life {
	for l.end == 0 {
		l.step()
	}
	return l
}

// dump tells all that the rest of a story, and what is to be held against it, hangs on.
func (s *story) dump() string {
	all := []any{s.base}
	text := ""
	for _, l := range s.lives {
		all = append(all, l.present())
		text += fmt.Sprint(l.plan, len(l.tasks), l.id, l.at, l.made, l.taken, l.lost, l.sees, l.fate, l.end, l.over)
	}
	return dump(all...) + text
}

// outcome tells what the lives have come to.
func (s *story) outcome() string {
	text := ""
	for _, l := range s.lives {
		text += map[int]string{api.TxCommitted: "C", api.TxAborted: "A"}[l.fate]
		if slices.Contains(l.notes, "duplicate") {
			text += "d"
		}
		if slices.Contains(l.notes, "a cascade") {
			text += "c"
		}
	}
	return text
}

// unmet tells whether the next step of a life is one that no other life can meet: the later places for dependents of a Close (few depend here), all of a Leave but its first step, all of a Start, and the last steps of one that has neither made nor taken a version.
func (l *life) unmet() bool {
	if l.fate != 0 && len(l.made)+len(l.taken)+len(l.lost) == 0 {
		return true
	}
	switch l.present().(type) {
	case *txtab.Close:
		return l.steps > 6
	case *txtab.Leave, *txtab.Start:
		return l.steps > 0
	}
	return false
}

func (p plot) step(t *testing.T, s *story, l *life) {
	for s.step(t, l); p.hurry && !l.over && l.unmet(); {
		s.step(t, l)
	}
}

func (p plot) retell(t *testing.T, path []int) *story {
	s := newStory(api.Config{Slots: 6, Buckets: 1, TxSlots: 4, Clock: 10})
	p.lay(s)
	for _, choice := range path {
		p.step(t, s, s.work()[choice])
	}
	return s
}

// tellAll tells a plot in every order, but goes on only once from moments that are alike; it tells how many moments there are, and what the lives came to.
func (p plot) tellAll(t *testing.T) (int, map[string]int) {
	seen, ends := map[string]int{}, map[string]int{}
	paths := [][]int{nil}
	for len(paths) > 0 {
		path := paths[len(paths)-1]
		paths = paths[:len(paths)-1]
		for s := p.retell(t, path); ; {
			state := s.dump()
			if seen[state]++; seen[state] > 1 {
				break
			}
			work := s.work()
			if len(work) == 0 {
				s.finish(t)
				ends[s.outcome()]++
				break
			}
			for i := range work[1:] {
				paths = append(paths, append(slices.Clone(path), i+1))
			}
			p.step(t, s, work[0])
			path = append(slices.Clone(path), 0)
		}
	}
	return len(seen), ends
}

func TestEveryOrderOfAFewLives(t *testing.T) {
	for _, p := range plots() {
		t.Run(p.name, func(t *testing.T) {
			t.Parallel()
			n, ends := p.tellAll(t)
			t.Logf("%d moments, %v", n, ends)
			for _, e := range p.ends {
				if ends[e] == 0 {
					t.Errorf("none came to %s: %v", e, ends)
				}
			}
		})
	}
}

func plots() []plot {
	return []plot{
		{"two that take one version", false, func(s *story) {
			s.load(5, "a")
			s.live(take("a"), commit())
			s.live(take("a"), commit())
		}, []string{"CC", "CA", "AC"}},
		{"one takes, one looks", false, func(s *story) {
			s.load(5, "a")
			s.upTo(s.live(take("a"), commit()), 1)
			s.live(see(1), see(1), commit())
		}, []string{"CC"}},
		{"one takes and aborts, one takes", false, func(s *story) {
			s.load(5, "a")
			s.upTo(s.live(take("a"), abort()), 1)
			s.live(see(1), take("a"), commit())
		}, []string{"AC", "AA"}},
		{"one has made, one looks", false, func(s *story) {
			s.upTo(s.live(insert("a"), commit()), 0)
			s.live(see(1), bar(1), see(1), commit())
		}, []string{"CC"}},
		{"one has made and aborts, one looks", false, func(s *story) {
			s.upTo(s.live(insert("a"), abort()), 0)
			s.live(see(1), see(1), commit())
		}, []string{"AC"}},
		{"one has made, and aborts late, one looks", false, func(s *story) {
			s.upTo(s.live(insert("a"), prepare(), abort()), 1)
			s.live(see(1), see(1), commit())
		}, []string{"AC", "AAc"}},
		{"one has taken, and aborts late, one looks", false, func(s *story) {
			s.load(5, "a")
			s.upTo(s.live(take("a"), prepare(), abort()), 1)
			s.live(see(1), take("a"), commit())
		}, []string{"AC", "AAc", "AA"}},
		{"one has updated, and aborts late, one looks, one takes", true, func(s *story) {
			s.load(5, "a")
			s.prepared(s.live(update("a"), prepare(), abort()))
			s.upTo(s.live(take("a"), commit()), 1)
			s.live(see(2), commit())
		}, []string{"AAcAc", "AAcC", "ACAc", "ACC"}},
		{"two insert one key", true, func(s *story) {
			s.live(insert("a"), commit())
			s.live(insert("a"), commit())
		}, []string{"AC", "CA", "CCd", "CdC"}},
		{"one inserts what another takes", false, func(s *story) {
			s.load(5, "a")
			s.upTo(s.live(take("a"), commit()), 0)
			s.live(insert("a"), commit())
		}, []string{"CC", "CCd"}},
		{"two update one key", true, func(s *story) {
			s.load(5, "a")
			s.live(update("a"), commit())
			s.live(update("a"), commit())
		}, []string{"CA", "AC", "CC"}},
		{"one updates, one looks at both", false, func(s *story) {
			s.load(5, "a")
			s.upTo(s.live(update("a"), commit()), 0)
			s.live(see(2), see(1), see(2), commit())
		}, []string{"CC"}},
		{"one updates, two look for the key", true, func(s *story) {
			s.load(5, "a")
			s.prepared(s.live(update("a"), commit()))
			s.live(find("a"), commit())
			s.live(see(1), commit())
		}, []string{"CCC"}},
		{"one takes, one takes, one looks", true, func(s *story) {
			s.load(5, "a")
			s.upTo(s.live(take("a"), commit()), 0)
			s.upTo(s.live(take("a"), commit()), 1)
			s.live(see(1), commit())
		}, []string{"CAC"}},
	}
}

// chance makes up a plan.
func chance(source *rand.Rand, slots int, keys []string) []deed {
	var plan []deed
	for range 1 + source.Intn(5) {
		key, slot := keys[source.Intn(len(keys))], 1+source.Intn(slots)
		plan = append(plan, []deed{see(slot), see(slot), bar(slot), find(key), insert(key), insert(key), take(key), update(key), update(key)}[source.Intn(9)])
	}
	switch source.Intn(10) {
	case 0:
		return append(plan, abort())
	case 1, 2, 3, 4:
		return append(plan, commit())
	}
	plan = append(plan, prepare())
	for range source.Intn(40) {
		plan = append(plan, deed{kind: "rest"})
	}
	if source.Intn(3) == 0 {
		return append(plan, abort())
	}
	return append(plan, deed{kind: "decide"})
}

// tellOne tells a story of many lives in an order that chance has.
func tellOne(t *testing.T, seed int64, met map[string]int) {
	source := rand.New(rand.NewSource(seed))
	keys := []string{"a", "q", "zz"}[:1+source.Intn(3)]
	s := newStory(api.Config{Slots: 60, Buckets: 1 + source.Intn(2), TxSlots: 30, Clock: 10})
	for i, key := range keys {
		if source.Intn(2) == 0 {
			s.load(uint64(source.Intn(11)), key)
		} else {
			s.load(uint64(i), fmt.Sprint("other ", i))
		}
	}
	workers, left := 2+source.Intn(5), 12
	patience := 0
	for {
		work := s.work()
		for len(work) < workers && left > 0 {
			left--
			l := s.live()
			l.plan = chance(source, len(s.base.Cells.Live()), keys)
			work = append(work, l)
		}
		if len(work) == 0 {
			break
		}
		l := work[source.Intn(len(work))]
		for range 1 + source.Intn(6) {
			if !l.over {
				s.step(t, l)
			}
		}
		if patience++; patience > 20000 {
			t.Fatalf("seed %d: it goes on for ever", seed)
		}
	}
	if fault := s.check(); fault != "" {
		t.Fatalf("seed %d: %s", seed, fault)
	}
	for _, l := range s.lives {
		met[fmt.Sprint("fate ", l.fate)]++
		for _, note := range l.notes {
			met[note]++
		}
		if l.fate == api.TxCommitted {
			for _, x := range l.sees {
				met[fmt.Sprint("seen ", x.seen)]++
			}
		}
	}
}

func TestManyLivesInManyOrders(t *testing.T) {
	met := map[string]int{}
	for seed := range int64(4000) {
		tellOne(t, seed, met)
	}
	t.Log(met)
	for _, what := range []string{"fate 3", "fate 4", "a cascade", "duplicate", "by will", "71", "seen true", "seen false"} {
		if met[what] < 100 {
			t.Errorf("the runs have hardly met %q: %d times", what, met[what])
		}
	}
}

// A machine that is stepped alone, whatever the others are in the midst of, is done.
func TestAMachineThatIsSteppedAlone(t *testing.T) {
	for seed := range int64(600) {
		source := rand.New(rand.NewSource(seed))
		const slots, places = 40, 12
		s := newStory(api.Config{Slots: slots, Buckets: 1, TxSlots: places, Clock: 10})
		for i, key := range []string{"a", "zz", "b"} {
			s.load(uint64(i), key)
		}
		for range 5 {
			s.live(chance(source, 3, []string{"a", "zz"})...)
		}
		for range source.Intn(250) {
			if work := s.work(); len(work) > 0 {
				s.step(t, work[source.Intn(len(work))])
			}
		}
		for _, l := range s.work() {
			alone(t, s, l, slots, places)
		}
	}
}

func alone(t *testing.T, s *story, l *life, slots, places int) {
	t.Helper()
	for n := 0; ; n++ {
		if n > 40*(slots+places) {
			t.Fatalf("P7.15: a machine that is stepped alone is not done")
		}
		m, done := l.step()
		if _, waits := m.(*call); done && !waits || l.over {
			return
		}
		if n > 4 && done {
			return // it waits for another one's fate: that is no machine's step
		}
	}
}

// The harness of layer 3 steps these machines like all others.
func TestMachinesOfTheHarness(t *testing.T) {
	for seed := range 40 {
		w := newWorld(t, 12, 1, 4, 20)
		w.open(3)
		w.put("a", 5, api.Infinity)
		w.put("a", word(2), api.Infinity)
		w.move(2, api.TxPreparing)
		h, _ := sched.New[sched.Machine](3)
		one, two, three := w.Lock(1, 1), w.Find(3, "a", 30), w.Make(3, "b", "x")
		four, five, six := w.Lock(3, 1), w.See(1, 2, 30), w.Bar(1, 1, 30)
		h.Submit(0, 0, one, two)
		h.Submit(1, 10, four, three)
		h.Submit(2, 20, five, six, w.Undo(2, []int{2}, nil))
		text := make([]byte, 30)
		rand.New(rand.NewSource(int64(seed))).Read(text)
		h.Play(1000, sched.Decode(string(text))...)
		_, e := h.Drain(10000)
		want(t, "the harness", e, api.OK)
		taken := 0
		for _, m := range []machine{one, four} {
			if m.Code() == api.OK {
				taken++
			}
		}
		want(t, "P7.12: the first writer", []any{taken, three.Code(), w.Misses()}, []any{1, api.OK, 0})
	}
}

// Goroutines share a base: what holds of steps in any order holds of them.
func TestGoroutines(t *testing.T) {
	for round := range 20 {
		s := newStory(api.Config{Slots: 1000, Buckets: 2, TxSlots: 250, Clock: 10})
		s.load(5, "a")
		s.load(5, "q")
		var group sync.WaitGroup
		for worker := range 8 {
			group.Add(1)
			go func() {
				defer group.Done()
				source := rand.New(rand.NewSource(int64(round*100 + worker)))
				for range 25 {
					l := s.live(chance(source, 2, []string{"a", "q", "zz"})...)
					for !l.over {
						if _, done := l.step(); done {
							runtime.Gosched()
						}
					}
				}
			}()
		}
		group.Wait()
		if fault := s.check(); fault != "" {
			t.Fatal(fault)
		}
		want(t, "P7.15: Misses", s.base.Misses(), 0)
	}
}
