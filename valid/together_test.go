package valid_test

import (
	"fmt"
	"hash/fnv"
	"math/rand"
	"runtime"
	"slices"
	"sync"
	"testing"

	"strata/api"
	"strata/sched"
	"strata/txtab"
	"strata/valid"
)

func see(slot int) deed         { return deed{kind: "see", slot: slot} }
func find(key string) deed      { return deed{kind: "find", key: key} }
func insert(key string) deed    { return deed{kind: "insert", key: key} }
func take(key string) deed      { return deed{kind: "take", key: key} }
func update(key string) deed    { return deed{kind: "update", key: key} }
func through(a, b string) deed  { return deed{kind: "scan", key: a, high: b} }
func lookOnly(a, b string) deed { return deed{kind: "look", key: a, high: b} }
func commit() deed              { return deed{kind: "commit"} }
func prepare() deed             { return deed{kind: "prepare"} }
func abort() deed               { return deed{kind: "abort"} }
func rest() deed                { return deed{kind: "rest"} }

// work tells the lives that go on.
func (s *story) work() []*life {
	return slices.DeleteFunc(slices.Clone(s.lives), func(l *life) bool { return l.over })
}

// allWords tells the words of all versions, one behind the other.
func (s *story) allWords() (all []uint64) {
	for _, slot := range s.base.Cells.Live() {
		begin, end, _ := s.base.Words(slot)
		all = append(all, begin, end)
	}
	return all
}

// step makes a step of a life, and looks at what has to hold at every step.
func (s *story) step(t *testing.T, l *life) {
	accesses, misses := s.base.Accesses(), s.base.Misses()
	var words []uint64
	ours := isOurs(l.present())
	if ours {
		words = s.allWords()
	}
	m, done := l.step()
	if made := s.base.Accesses() - accesses; made > 1 || made == 0 && !done {
		t.Fatalf("P9.6: a step of %T made %d accesses (the last: %v)", m, made, done)
	}
	if ours && !slices.Equal(s.allWords(), words) {
		t.Fatalf("P9.6: a step of %T has changed a version's words", m)
	}
	if s.base.Misses() != misses {
		t.Fatalf("a step of %T met what is free", m)
	}
}

// finish looks at the last words, when all have left.
func (s *story) finish(t *testing.T) {
	if fault := s.judge(); fault != "" {
		t.Fatal(fault)
	}
	for _, l := range s.lives {
		if state, _, _ := s.base.Tx.Look(l.id); state != api.TxTerminated {
			t.Fatalf("a life is over in the state %d", state)
		}
	}
}

// plot is a story that is told in every order of its lives' steps.
type plot struct {
	name  string
	hurry bool // steps that no other life can meet are made in one go
	lay   func(s *story)
	ends  []string // what the lives have to have come to, each in some order
	never []string // what they must not come to, in none
}

// upTo leads a life on alone, till so many deeds of its plan are not begun.
func (s *story) upTo(l *life, left int) *life {
	for len(l.plan) > left {
		l.step()
	}
	return l
}

// dump tells all that the rest of a story, and what is to be held against it, hangs on.
func (s *story) dump() string {
	all := []any{s.base}
	text := ""
	for _, l := range s.lives {
		m := l.present()
		if x, ok := m.(*scan); ok {
			all = append(all, x.walk, x.part)
			text += fmt.Sprint(x.seen)
			m = nil
		}
		all = append(all, m, l.set)
		for _, next := range l.tasks {
			all = append(all, next.begin, next.call, next.then)
		}
		text += fmt.Sprint(l.plan, len(l.tasks), l.id, l.at, l.made, l.taken, l.fate, l.end, l.over, l.notes)
	}
	return dump(all...) + text
}

// outcome tells what the lives have come to: committed, or aborted, and by what error.
func (s *story) outcome() string {
	text := ""
	for _, l := range s.lives {
		text += map[int]string{api.TxCommitted: "C", api.TxAborted: "A"}[l.fate]
		for _, note := range l.notes {
			text += map[string]string{"duplicate": "d", "a cascade": "c", "90": "r", "91": "p", "71": "w"}[note]
		}
	}
	return text
}

// unmet tells whether the next step of a life is one that no other life can meet: the later places for dependents of a Close (few depend here), all of a Leave but its first step, all of a Start, and the last steps of one that has neither made nor taken a version.
func (l *life) unmet() bool {
	if l.fate != 0 && len(l.made)+len(l.taken) == 0 && !slices.Contains(l.notes, "duplicate") {
		return true
	}
	switch l.present().(type) {
	case *txtab.Close:
		return l.steps > 6
	case *txtab.Leave, *txtab.Start:
		return l.steps > 0
	}
	return false
}

// step makes a step of a life, and those behind it that no other life can meet.
func (p plot) step(l *life, step func(*life)) {
	for step(l); p.hurry && !l.over && l.unmet(); {
		step(l)
	}
}

// retell tells a story again, up to a moment that was looked at before and one step on.
func (p plot) retell(t *testing.T, path []int) *story {
	s := newStory(api.Config{Slots: 5, Buckets: 1, TxSlots: 3, Clock: 10})
	p.lay(s)
	for i, choice := range path {
		if i == len(path)-1 {
			p.step(s.work()[choice], func(l *life) { s.step(t, l) })
		} else {
			p.step(s.work()[choice], func(l *life) { l.step() })
		}
	}
	return s
}

// tellAll tells a plot in every order, but goes on only once from moments that are alike; it tells how many moments there are, and what the lives came to.
func (p plot) tellAll(t *testing.T) (int, map[string]int) {
	seen, ends := map[uint64]int{}, map[string]int{}
	paths := [][]int{nil}
	for len(paths) > 0 {
		path := paths[len(paths)-1]
		paths = paths[:len(paths)-1]
		for s := p.retell(t, path); ; {
			hash := fnv.New64a()
			hash.Write([]byte(s.dump()))
			state := hash.Sum64()
			if seen[state]++; seen[state] > 1 {
				break
			}
			work := s.work()
			if len(work) == 0 {
				s.finish(t)
				ends[s.outcome()]++
				break
			}
			for i := range work[1:] {
				paths = append(paths, append(slices.Clone(path), i+1))
			}
			p.step(work[0], func(l *life) { s.step(t, l) })
			path = append(slices.Clone(path), 0)
		}
	}
	return len(seen), ends
}

func TestEveryOrderOfAFewLives(t *testing.T) {
	for _, p := range plots() {
		t.Run(p.name, func(t *testing.T) {
			t.Parallel()
			n, ends := p.tellAll(t)
			t.Logf("%d moments, %v", n, ends)
			for _, e := range p.ends {
				if ends[e] == 0 {
					t.Errorf("none came to %s: %v", e, ends)
				}
			}
			for _, e := range p.never {
				if ends[e] != 0 {
					t.Errorf("some came to %s: %v", e, ends)
				}
			}
		})
	}
}

const snapshot, repeatable, serial = api.Snapshot, api.RepeatableRead, api.Serializable

// skew is two that each read what the other one writes; both have read and written ahead of all orders.
func skew(iso int) func(s *story) {
	return func(s *story) {
		s.load(5, "a")
		s.load(6, "c")
		s.upTo(s.live(iso, find("a"), update("c"), commit()), 0)
		s.upTo(s.live(iso, find("c"), update("a"), commit()), 0)
	}
}

// skewOfRanges is two that each look through a range and put something into it.
func skewOfRanges(iso int) func(s *story) {
	return func(s *story) {
		s.upTo(s.live(iso, through("a", "d"), insert("a"), commit()), 0)
		s.upTo(s.live(iso, through("a", "d"), insert("c"), commit()), 0)
	}
}

// ring is three, each of which has read what the next one writes.
func ring(iso int) func(s *story) {
	return func(s *story) {
		keys := []string{"a", "c", "d"}
		for _, key := range keys {
			s.load(5, key)
		}
		for i := range keys {
			s.upTo(s.live(iso, find(keys[i]), take(keys[(i+1)%3]), commit()), 0)
		}
	}
}

// reader is one that looks, beside one that writes.
func reader(iso int, looks deed, writes ...deed) func(s *story) {
	return func(s *story) {
		s.load(5, "a")
		s.live(iso, looks, commit())
		s.upTo(s.live(iso, writes...), 1)
	}
}

func plots() []plot {
	return []plot{
		{"a skew, as Snapshot", true, skew(snapshot), []string{"CC"}, nil},
		{"a skew, as RepeatableRead", false, skew(repeatable), []string{"CAr", "ArC"}, []string{"CC"}},
		{"a skew, as Serializable", true, skew(serial), []string{"CAr", "ArC"}, []string{"CC"}},
		{"a skew from the beginning", true, func(s *story) {
			s.load(5, "a")
			s.load(6, "c")
			s.upTo(s.live(serial, find("a"), take("c"), commit()), 2)
			s.live(serial, find("c"), take("a"), commit())
		}, []string{"CC", "CAr", "ArC"}, nil},
		{"a skew of ranges, as RepeatableRead", true, skewOfRanges(repeatable), []string{"CC"}, nil},
		{"a skew of ranges, as Serializable", true, skewOfRanges(serial), []string{"CAp", "ApC"}, []string{"CC"}},
		{"a skew of a range and a version", true, func(s *story) {
			s.load(5, "a")
			s.upTo(s.live(serial, find("a"), insert("c"), commit()), 0)
			s.upTo(s.live(serial, through("b", "d"), take("a"), commit()), 0)
		}, []string{"CAp", "ArC"}, []string{"CC"}},
		{"one looks for a key, one updates it", true, reader(repeatable, find("a"), update("a"), commit()), []string{"CC", "ArC"}, nil},
		{"one looks for a key, one deletes it", true, reader(serial, find("a"), take("a"), commit()), []string{"CC", "ArC"}, nil},
		{"one looks through a range, one puts into it", true, reader(serial, through("", ""), insert("c"), commit()), []string{"CC", "ApC"}, nil},
		{"one looks through a range, one updates there", true, reader(serial, through("", ""), update("a"), commit()), []string{"CC", "ArC"}, nil},
		{"one looks through a range, as RepeatableRead", true, reader(repeatable, through("", "d"), insert("c"), commit()), []string{"CC"}, []string{"ApC"}},
		{"one notes a range, one puts into it", true, reader(serial, lookOnly("b", "d"), insert("c"), commit()), []string{"CC", "ApC"}, nil},
		{"one looks at what is about to be there, and is not", true, func(s *story) {
			s.upTo(s.live(serial, insert("a"), prepare(), rest(), abort()), 2)
			s.live(serial, see(1), lookOnly("a", "b"), commit())
		}, []string{"AC", "AAc", "AAp"}, nil},
		{"one looks at what is about to be gone, and is not", true, func(s *story) {
			s.load(5, "a")
			s.upTo(s.live(serial, take("a"), prepare(), rest(), abort()), 2)
			s.live(serial, through("a", "b"), commit())
		}, []string{"AC", "AAc", "AAp"}, nil},
		{"one finds its key there, one deletes it", true, func(s *story) {
			s.load(5, "a")
			s.upTo(s.live(repeatable, insert("a"), commit()), 1)
			s.upTo(s.live(repeatable, take("a"), commit()), 0)
		}, []string{"CdC", "AdrC"}, nil},
		{"each updates what it has read", true, func(s *story) {
			s.load(5, "a")
			s.load(5, "c")
			s.upTo(s.live(serial, through("", "b"), update("a"), through("", "b"), commit()), 1)
			s.upTo(s.live(serial, through("c", ""), update("c"), through("c", ""), commit()), 1)
		}, []string{"CC"}, []string{"CAr", "CAp", "ArC", "ApC"}},
	}
}

// anomaly is two that write and one that only reads: without the reader any order of the two would do.
func anomaly(iso int) func(s *story) {
	return func(s *story) {
		s.load(5, "a")
		s.load(5, "c")
		s.upTo(s.live(iso, find("a"), find("c"), take("c"), commit()), 0)
		s.live(iso, take("a"), commit())
		s.live(iso, through("", ""), commit())
	}
}

// Three lives, in many orders of their steps.
func TestThreeLivesInManyOrders(t *testing.T) {
	for _, p := range []plot{
		{"a ring, as Snapshot", false, ring(snapshot), []string{"CCC"}, nil},
		{"a ring, as RepeatableRead", false, ring(repeatable), []string{"CCAr", "CArC", "ArCC", "ArArC"}, []string{"CCC"}},
		{"a ring, as Serializable", false, ring(serial), []string{"CCAr", "CArC", "ArCC", "ArArC"}, []string{"CCC"}},
		{"two that write, one that looks", false, anomaly(serial), []string{"CCAr", "ArCC", "CCC"}, nil},
	} {
		ends := map[string]int{}
		for seed := range int64(1500) {
			source := rand.New(rand.NewSource(seed))
			s := p.retell(t, nil)
			for n := 0; len(s.work()) > 0; n++ {
				work := s.work()
				l := work[source.Intn(len(work))]
				for range 1 + source.Intn(12) {
					if !l.over {
						s.step(t, l)
					}
				}
				if n > 5000 {
					t.Fatalf("%s: seed %d: it goes on for ever", p.name, seed)
				}
			}
			s.finish(t)
			ends[s.outcome()]++
		}
		t.Log(p.name, ends)
		for _, e := range p.ends {
			if ends[e] == 0 {
				t.Errorf("%s: none came to %s: %v", p.name, e, ends)
			}
		}
		for _, e := range p.never {
			if ends[e] != 0 {
				t.Errorf("%s: some came to %s: %v", p.name, e, ends)
			}
		}
	}
}

// chance makes up a plan.
func chance(source *rand.Rand, slots int, keys []string) []deed {
	var plan []deed
	for range 1 + source.Intn(5) {
		key, slot := keys[source.Intn(len(keys))], 1+source.Intn(slots)
		low, high := "", ""
		if source.Intn(2) == 0 {
			low = key
		}
		if source.Intn(2) == 0 {
			high = keys[source.Intn(len(keys))] + "\x00"
		}
		plan = append(plan, []deed{
			see(slot), find(key), find(key), insert(key), insert(key), take(key), update(key), update(key), through(low, high), through(key, key+"\x00"), lookOnly(low, high),
		}[source.Intn(11)])
	}
	switch source.Intn(10) {
	case 0:
		return append(plan, abort())
	case 1, 2, 3, 4, 5:
		return append(plan, commit())
	}
	plan = append(plan, prepare())
	for range source.Intn(20) {
		plan = append(plan, rest())
	}
	if source.Intn(5) == 0 {
		return append(plan, abort())
	}
	plan = append(plan, deed{kind: "check"})
	for range source.Intn(20) {
		plan = append(plan, rest())
	}
	return append(plan, deed{kind: "decide"})
}

// level makes up a level, mostly one that asks for something.
func level(source *rand.Rand) int {
	return []int{api.ReadCommitted, snapshot, repeatable, repeatable, repeatable, serial, serial, serial, serial}[source.Intn(9)]
}

// tellOne tells a story of many lives in an order that chance has.
func tellOne(t *testing.T, seed int64, met map[string]int) {
	source := rand.New(rand.NewSource(seed))
	keys := []string{"a", "q", "zz", "c"}[:1+source.Intn(4)]
	s := newStory(api.Config{Slots: 60, Buckets: 1 + source.Intn(2), TxSlots: 30, Clock: 10})
	s.load(0, "other")
	for _, key := range keys {
		if source.Intn(2) == 0 {
			s.load(uint64(source.Intn(11)), key)
		}
	}
	workers, left := 2+source.Intn(4), 12
	for turns := 0; ; turns++ {
		work := s.work()
		for len(work) < workers && left > 0 {
			left--
			work = append(work, s.live(level(source), chance(source, len(s.base.Cells.Live()), keys)...))
		}
		if len(work) == 0 {
			break
		}
		l := work[source.Intn(len(work))]
		for range 1 + source.Intn(20) {
			if !l.over {
				s.step(t, l)
			}
		}
		if turns > 20000 {
			t.Fatalf("seed %d: it goes on for ever", seed)
		}
	}
	if fault := s.judge(); fault != "" {
		t.Fatalf("seed %d: %s", seed, fault)
	}
	for _, l := range s.lives {
		met[fmt.Sprint("level ", l.iso, " fate ", l.fate)]++
		for _, note := range l.notes {
			met[fmt.Sprint("level ", l.iso, " ", note)]++
		}
		if l.fate == api.TxCommitted {
			met[fmt.Sprint("read by level ", l.iso)] += len(l.set.Slots())
			met[fmt.Sprint("looked for by level ", l.iso)] += len(l.set.Ranges())
		}
		for _, other := range s.lives {
			if l.fate == api.TxCommitted && other.fate == api.TxCommitted && l.iso == other.iso && l.end < other.end && s.readBehind(l, other) {
				met[fmt.Sprint("level ", l.iso, " read behind")]++
				if s.readBehind(other, l) {
					met[fmt.Sprint("level ", l.iso, " skews")]++
				}
			}
		}
	}
}

func TestManyLivesInManyOrders(t *testing.T) {
	met := map[string]int{}
	for seed := range int64(3000) {
		tellOne(t, seed, met)
	}
	t.Log(met)
	for what, least := range map[string]int{
		"level 2 fate 3": 500, "level 3 fate 3": 500, "level 4 fate 3": 500, "level 3 90": 100, "level 4 90": 100, "level 4 91": 100, "level 3 a cascade": 15, "level 4 a cascade": 15, "level 4 71": 100,
		"read by level 3": 1000, "read by level 4": 1000, "looked for by level 4": 1000, "level 4 read behind": 100, "level 3 skews": 5,
	} {
		if met[what] < least {
			t.Errorf("the runs have hardly met %q: %d times", what, met[what])
		}
	}
	for _, never := range []string{"level 1 90", "level 2 90", "level 1 91", "level 2 91", "level 3 91", "level 4 skews"} {
		if met[never] != 0 {
			t.Errorf("P9.5, P9.9: the runs have met %q: %d times", never, met[never])
		}
	}
}

// The harness of layer 3 steps these machines like all others.
func TestMachinesOfTheHarness(t *testing.T) {
	for seed := range 60 {
		w := skewed(t)
		second := w.draw(2)
		h, _ := sched.New[sched.Machine](3)
		s := sees(t, []int{1, 2}, "a", "c")
		one, two := valid.NewCheck(w.Base, 1, 4, s, 5), valid.NewCheck(w.Base, 2, 4, s, second)
		three, four := valid.NewReads(w.Base, 1, s, 4), valid.NewLooks(w.Base, 2, s, 4)
		h.Submit(0, 0, one, three)
		h.Submit(1, 10, two)
		h.Submit(2, 20, four)
		text := make([]byte, 30)
		rand.New(rand.NewSource(int64(seed))).Read(text)
		h.Play(1000, sched.Decode(string(text))...)
		_, e := h.Drain(10000)
		want(t, "the harness", e, api.OK)
		want(t, "P9.9: a skew", []any{one.Code(), two.Code(), three.Code(), four.Code(), w.Misses()}, []any{api.OK, api.ErrRead, api.OK, api.OK, 0})
	}
}

// Goroutines share a base: what holds of steps in any order holds of them.
func TestGoroutines(t *testing.T) {
	for round := range 10 {
		s := newStory(api.Config{Slots: 1000, Buckets: 2, TxSlots: 250, Clock: 10})
		s.load(5, "a")
		s.load(5, "q")
		var group sync.WaitGroup
		for worker := range 8 {
			group.Add(1)
			go func() {
				defer group.Done()
				source := rand.New(rand.NewSource(int64(round*100 + worker)))
				for range 25 {
					l := s.live(level(source), chance(source, 2, []string{"a", "q", "zz", "c"})...)
					for !l.over {
						if _, done := l.step(); done {
							runtime.Gosched()
						}
					}
				}
			}()
		}
		group.Wait()
		if fault := s.judge(); fault != "" {
			t.Fatal(fault)
		}
		want(t, "Misses", s.base.Misses(), 0)
	}
}
