package sweep_test

import (
	"fmt"
	"hash/fnv"
	"math/rand"
	"runtime"
	"slices"
	"sync"
	"testing"

	"strata/api"
	"strata/sched"
	"strata/sweep"
	"strata/txtab"
)

func find(key string) deed   { return deed{kind: "find", key: key} }
func browse() deed           { return deed{kind: "browse"} }
func scan() deed             { return deed{kind: "scan"} }
func insert(key string) deed { return deed{kind: "insert", key: key} }
func take(key string) deed   { return deed{kind: "take", key: key} }
func update(key string) deed { return deed{kind: "update", key: key} }
func commit() deed           { return deed{kind: "commit"} }
func abort() deed            { return deed{kind: "abort"} }
func clean() deed            { return deed{kind: "clean"} }
func pass(by int) deed       { return deed{kind: "pass", by: by} }

// plot is a story that is told in every order of its lives' steps.
type plot struct {
	name     string
	sweepers int
	hurry    bool // steps that no other life can meet are made in one go
	looks    int  // at one of so many moments it is looked whether a sweeper's step is to be seen; 0: never
	keys     []string
	lay      func(s *story)
	ends     []string // what the lives have to have come to, each in some order
}

// upTo leads a life on alone, till so many deeds of its plan are not begun, and then so many steps more.
func (s *story) upTo(t *testing.T, l *life, left, steps int) *life {
	for len(l.plan) > left {
		s.step(t, l)
	}
	for range steps {
		s.step(t, l)
	}
	return l
}

// dump tells all that the rest of a story, and what is to be held against it, hangs on.
func (s *story) dump() string {
	all := []any{s.base}
	for _, x := range s.sweepers {
		all = append(all, x)
	}
	text := fmt.Sprint(s.highest)
	for _, l := range s.lives {
		all = append(all, l.present())
		text += fmt.Sprint(l.plan, len(l.tasks), l.id, l.at, l.made, l.taken, l.lost, l.floor, l.fate, l.end, l.over, s.begins[l])
	}
	return dump(all...) + text
}

// outcome tells what the lives have come to.
func (s *story) outcome() string {
	text := ""
	for _, l := range s.lives {
		text += map[int]string{api.TxCommitted: "C", api.TxAborted: "A"}[l.fate]
		if l.sweeps {
			text += fmt.Sprint(l.notes)
		}
	}
	return text
}

// unmet tells whether the next step of a life is one that no other life can meet: the later places for dependents of a Close (few depend here), the last step of a Start, and what comes behind the decision of one that has neither made nor taken a version, up to its leaving.
func (l *life) unmet() bool {
	switch l.present().(type) {
	case *txtab.Quit:
		return false
	case *txtab.Close:
		return l.steps > 4 || len(l.made)+len(l.taken)+len(l.lost) == 0
	case *txtab.Start:
		return l.steps > 2
	}
	return l.fate != 0 && len(l.made)+len(l.taken)+len(l.lost) == 0
}

func (p plot) step(t *testing.T, s *story, l *life) {
	for s.step(t, l); p.hurry && !l.over && l.unmet(); {
		s.step(t, l)
	}
}

func (p plot) retell(t *testing.T, path []int) *story {
	s := newStory(api.Config{Slots: 5, Buckets: 1, TxSlots: 3, Clock: 10}, p.sweepers)
	p.lay(s)
	for _, choice := range path {
		p.step(t, s, s.work()[choice])
	}
	return s
}

// tellAll tells a plot in every order, but goes on only once from moments that are alike; it tells how many moments there are, and what the lives came to.
func (p plot) tellAll(t *testing.T) (int, map[string]int) {
	seen, ends := map[uint64]int{}, map[string]int{}
	paths := [][]int{nil}
	for len(paths) > 0 {
		path := paths[len(paths)-1]
		paths = paths[:len(paths)-1]
		for s := p.retell(t, path); ; {
			hash := fnv.New64a()
			hash.Write([]byte(s.dump()))
			state := hash.Sum64()
			if seen[state]++; seen[state] > 1 {
				break
			}
			work := s.work()
			if len(work) == 0 {
				ends[s.outcome()]++
				s.finish(t, p.keys)
				break
			}
			if p.looks > 0 && state%uint64(p.looks) == 0 {
				p.look(t, path, work)
			}
			for i := range work[1:] {
				paths = append(paths, append(slices.Clone(path), i+1))
			}
			p.step(t, s, work[0])
			path = append(slices.Clone(path), 0)
		}
	}
	return len(seen), ends
}

// look is P8.10 at one moment: each step of a sweeper's, made ahead of a Find or not, makes no difference.
func (p plot) look(t *testing.T, path []int, work []*life) {
	for i, reader := range work {
		if !reader.idle() {
			continue
		}
		find := func(s *story) string {
			l := s.lives[slices.Index(reader.story.lives, reader)]
			return s.contents(t, l.id, l.at, p.keys)
		}
		before := find(p.retell(t, path))
		for choice, l := range work {
			if !l.sweeps {
				continue
			}
			if after := find(p.retell(t, append(slices.Clone(path), choice))); after != before {
				t.Fatalf("P8.10: life %d finds %s, and behind a step of sweeping %s", i, before, after)
			}
		}
	}
}

func TestEveryOrderOfAFewLives(t *testing.T) {
	for _, p := range plots(t) {
		t.Run(p.name, func(t *testing.T) {
			t.Parallel()
			n, ends := p.tellAll(t)
			t.Logf("%d moments, %v", n, ends)
			for _, e := range p.ends {
				if ends[e] == 0 {
					t.Errorf("none came to %s: %v", e, ends)
				}
			}
		})
	}
}

// ahead leads a life some steps on alone.
func (s *story) ahead(t *testing.T, l *life, steps int) *life {
	return s.upTo(t, l, len(l.plan), steps)
}

func plots(t *testing.T) []plot {
	const opened = 7 // the steps of a Pass till its record is open
	a := []string{"a"}
	return []plot{
		{"two Passes of one sweeper", 1, false, 0, a, func(s *story) {
			s.load(3, 6, "a")
			s.load(6, 0, "a")
			s.sweeping(pass(0))
			s.sweeping(pass(0))
		}, []string{"[pass 0 1][pass 0 0]", "[pass 0 0][pass 0 1]"}},
		{"two Passes of two sweepers", 2, false, 0, []string{"a", "q"}, func(s *story) {
			s.load(3, 6, "q")
			s.load(4, 7, "a")
			s.ahead(t, s.sweeping(pass(0)), opened+4)
			s.ahead(t, s.sweeping(pass(1)), opened+4)
		}, []string{"[pass 0 2][pass 0 0]", "[pass 0 1][pass 0 1]", "[pass 0 0][pass 0 2]"}},
		{"a Pass and one that begins and looks", 1, false, 3, a, func(s *story) {
			s.load(3, 6, "a")
			s.load(6, 0, "a")
			s.sweeping(pass(0))
			s.live(find("a"), commit())
		}, []string{"[pass 0 1]C"}},
		{"two Passes, and one that goes along the bucket", 1, false, 10, a, func(s *story) {
			s.load(6, 0, "a")
			s.load(3, 6, "a")
			s.ahead(t, s.live(browse(), find("a"), commit()), 6)
			s.sweeping(pass(0), pass(0))
		}, []string{"C[pass 0 1 pass 0 0]"}},
		{"two Passes, and one that goes along the ladder", 1, false, 10, []string{"q"}, func(s *story) {
			s.load(3, 6, "q")
			s.load(6, 0, "q")
			s.ahead(t, s.live(scan(), commit()), 6)
			s.sweeping(pass(0), pass(0))
		}, []string{"C[pass 0 1 pass 0 0]"}},
		{"a Pass and one that updates", 1, false, 0, a, func(s *story) {
			s.load(3, 0, "a")
			s.live(update("a"), commit())
			s.sweeping(pass(0))
		}, []string{"C[pass 0 0]", "C[pass 0 1]"}},
		{"Passes and one that gives up what it made", 1, false, 0, a, func(s *story) {
			s.upTo(t, s.live(insert("a"), abort()), 0, 0)
			s.sweeping(pass(0), pass(0), pass(0))
		}, []string{"A[pass 0 0 pass 0 0 pass 0 0]", "A[pass 0 1 pass 0 0 pass 0 0]", "A[pass 0 0 pass 0 1 pass 0 0]"}},
		{"Passes and one that finds a duplicate", 1, false, 0, a, func(s *story) {
			s.load(3, 0, "a")
			s.upTo(t, s.live(insert("a"), commit()), 1, 3)
			s.sweeping(pass(0), pass(0))
		}, []string{"C[pass 0 0 pass 0 0]", "C[pass 0 1 pass 0 0]", "C[pass 0 0 pass 0 1]"}},
		{"a Pass, and one that cleans within a transaction", 2, false, 0, a, func(s *story) {
			s.load(3, 6, "a")
			s.load(6, 0, "a")
			s.ahead(t, s.live(clean(), commit()), 5)
			s.ahead(t, s.sweeping(deed{kind: "pass", by: 1}), opened)
		}, []string{"C[pass 0 0]", "C[pass 0 1]"}},
		{"a Pass, one that updates, one that looks", 1, true, 20, a, func(s *story) {
			s.load(3, 0, "a")
			s.ahead(t, s.live(find("a"), commit()), 5)
			s.upTo(t, s.live(update("a"), commit()), 0, 4)
			s.ahead(t, s.sweeping(pass(0)), 1)
		}, []string{"CC[pass 0 0]", "CC[pass 0 1]"}},
	}
}

// chance makes up a transaction's plan.
func chance(source *rand.Rand, buckets int, keys []string) []deed {
	var plan []deed
	for range 1 + source.Intn(5) {
		key, bucket, by := keys[source.Intn(len(keys))], source.Intn(buckets), source.Intn(2)
		plan = append(plan, []deed{
			find(key), {kind: "browse", n: bucket}, {kind: "scan", key: key}, insert(key), insert(key), take(key), update(key), update(key), update(key), {kind: "clean", n: bucket, by: by}, {kind: "rest"},
		}[source.Intn(11)])
	}
	switch source.Intn(10) {
	case 0:
		return append(plan, abort())
	case 1, 2, 3, 4:
		return append(plan, commit())
	}
	plan = append(plan, deed{kind: "prepare"})
	for range source.Intn(30) {
		plan = append(plan, deed{kind: "rest"})
	}
	if source.Intn(3) == 0 {
		return append(plan, abort())
	}
	return append(plan, deed{kind: "decide"})
}

// chanceToSweep makes up the plan of one that sweeps.
func chanceToSweep(source *rand.Rand, buckets int) []deed {
	var plan []deed
	for range 1 + source.Intn(3) {
		by := source.Intn(2)
		if source.Intn(5) == 0 {
			plan = append(plan, deed{kind: "floor"}, deed{kind: "reclaim", n: 1 + source.Intn(3), by: by})
		} else {
			plan = append(plan, deed{kind: "pass", n: source.Intn(buckets), by: by})
		}
	}
	return plan
}

// tale is a story that chance tells: the same seed tells the same.
type tale struct {
	*story
	source  *rand.Rand
	keys    []string
	workers int
	left    int // transactions that have not begun
}

func newTale(seed int64) *tale {
	source := rand.New(rand.NewSource(seed))
	c := &tale{source: source, keys: []string{"a", "q", "zz"}[:1+source.Intn(3)], workers: 2 + source.Intn(5), left: 14}
	c.story = newStory(api.Config{Slots: 8 + source.Intn(25), Buckets: 1 + source.Intn(2), TxSlots: 8 + source.Intn(12), Clock: 10}, 2)
	for i, key := range c.keys {
		if source.Intn(2) == 0 {
			middle := uint64(1 + source.Intn(9))
			c.load(uint64(i), middle, key)
			c.load(middle, 0, key)
		}
	}
	return c
}

// turn lets chance choose who goes on, and how far; false: all is over.
func (c *tale) turn(t *testing.T) bool {
	work := c.work()
	for len(work) < c.workers && c.left > 0 {
		c.left--
		if c.source.Intn(3) == 0 {
			work = append(work, c.sweeping(chanceToSweep(c.source, c.base.Hash.Buckets())...))
		} else {
			work = append(work, c.live(chance(c.source, c.base.Hash.Buckets(), c.keys)...))
		}
	}
	if len(work) == 0 {
		return false
	}
	l := work[c.source.Intn(len(work))]
	for range 1 + c.source.Intn(8) {
		if !l.over {
			c.step(t, l)
		}
	}
	return true
}

func TestManyLivesInManyOrders(t *testing.T) {
	met := map[string]int{}
	for seed := range int64(1500) {
		c := newTale(seed)
		turns := 0
		for ; c.turn(t); turns++ {
			if turns > 20000 {
				t.Fatalf("seed %d: it goes on for ever", seed)
			}
		}
		met["unlinked"] += c.sum((*sweep.Sweeper).Unlinked)
		met["freed"] += c.sum((*sweep.Sweeper).Freed)
		for _, l := range c.lives {
			met[fmt.Sprint("fate ", l.fate)]++
			for _, note := range l.notes {
				met[note]++
			}
		}
		if c.finish(t, c.keys); t.Failed() {
			t.Fatalf("seed %d", seed)
		}
		met["looked for"] += unseen(t, seed, turns)
	}
	t.Log(met)
	for what, least := range map[string]int{"fate 3": 1000, "fate 4": 1000, "unlinked": 1000, "freed": 1000, "duplicate": 100, "a cascade": 20, "71": 100, "pass 0 1": 100, "pass 0 2": 100, "looked for": 400} {
		if met[what] < least {
			t.Errorf("the runs have hardly met %q: %d times", what, met[what])
		}
	}
}

// unseen is P8.10: at some moment of a tale, sweeping goes on, or begins, for some steps, or it does not; then all that stand between two machines look for all keys. It tells how many looked, behind sweeping that took something out or freed it.
func unseen(t *testing.T, seed int64, turns int) int {
	source := rand.New(rand.NewSource(seed + 1<<40))
	moment := source.Intn(turns)
	told := [2]string{}
	looked := 0
	for variant := range told {
		c := newTale(seed)
		for range moment {
			c.turn(t)
		}
		for _, l := range c.lives {
			for n := 0; n < 40 && !l.sweeps && !l.over && !l.idle(); n++ {
				c.step(t, l)
			}
		}
		swept := false
		if variant == 1 {
			old := c.sum((*sweep.Sweeper).Unlinked) + c.sum((*sweep.Sweeper).Freed)
			c.sweepOn(t, rand.New(rand.NewSource(seed)))
			swept = c.sum((*sweep.Sweeper).Unlinked)+c.sum((*sweep.Sweeper).Freed) > old
		}
		for _, l := range c.lives {
			if l.idle() {
				if swept {
					looked++
				}
				told[variant] += fmt.Sprintln(l.name, c.contents(t, l.id, l.at, c.keys))
			}
		}
	}
	if told[0] != told[1] {
		t.Fatalf("P8.10: seed %d, behind %d turns: without sweeping\n%s, with it\n%s", seed, moment, told[0], told[1])
	}
	return looked
}

// sweepOn makes steps of those that sweep alone, and of new ones.
func (c *tale) sweepOn(t *testing.T, source *rand.Rand) {
	for range 1 + source.Intn(3) {
		if free := c.base.Tx.Places() - len(c.base.Tx.Live()); free > 1 {
			c.sweeping(chanceToSweep(source, c.base.Hash.Buckets())...)
		}
	}
	for range 20 + source.Intn(200) {
		work := slices.DeleteFunc(c.work(), func(l *life) bool { return !l.sweeps })
		if len(work) == 0 {
			return
		}
		c.step(t, work[source.Intn(len(work))])
	}
}

// The harness of layer 3 steps these machines like all others.
func TestMachinesOfTheHarness(t *testing.T) {
	for seed := range 60 {
		w := newWorld(t, 12, 1, 5, 20)
		other := w.another()
		for i := range 8 {
			w.put([]string{"a", "q", "zz"}[i%3], uint64(i+1), uint64(i+9))
		}
		h, _ := sched.New[sched.Machine](3)
		one, two, three := w.Pass(0), w.Pass(0), other.Pass(0)
		h.Submit(0, 0, one, w.Reclaim(21, 2))
		h.Submit(1, 10, two, w.Pass(0))
		h.Submit(2, 20, three, other.Pass(0))
		text := make([]byte, 40)
		rand.New(rand.NewSource(int64(seed))).Read(text)
		h.Play(2000, sched.Decode(string(text))...)
		_, e := h.Drain(10000)
		want(t, "the harness", e, api.OK)
		want(t, "P8.12: all went once", []any{one.Unlinked() + two.Unlinked() + three.Unlinked(), w.Unlinked() + other.Unlinked(), w.Misses()}, []any{8, 8, 0})
		w.linked("P8.11: behind all", nil, nil)
	}
}

// Goroutines share a base and its sweepers: what holds of steps in any order holds of them.
func TestGoroutines(t *testing.T) {
	for round := range 10 {
		s := newStory(api.Config{Slots: 500, Buckets: 2, TxSlots: 250, Clock: 10}, 2)
		s.load(5, 0, "a")
		s.load(3, 5, "q")
		var group sync.WaitGroup
		for worker := range 8 {
			group.Add(1)
			go func() {
				defer group.Done()
				source := rand.New(rand.NewSource(int64(round*100 + worker)))
				for range 25 {
					var l *life
					if worker%3 == 0 {
						l = s.sweeping(chanceToSweep(source, 2)...)
					} else {
						l = s.live(chance(source, 2, []string{"a", "q", "zz"})...)
					}
					for !l.over {
						if _, done := l.step(); done {
							runtime.Gosched()
						}
					}
				}
			}()
		}
		group.Wait()
		want(t, "P8.9: Misses", s.base.Misses(), 0)
		want(t, "P8.2: what was put into limbo", s.sum((*sweep.Sweeper).Unlinked), s.sum((*sweep.Sweeper).Limbo)+s.sum((*sweep.Sweeper).Freed))
		s.finish(t, []string{"a", "q", "zz"})
	}
}
