package chain_test

import (
	"fmt"
	"math/rand"
	"slices"
	"testing"

	"strata/api"
	"strata/chain"
	"strata/sched"
)

// story is a run of many machines by P4.9's rules, with what has to hold of it at every moment.
type story struct {
	*world
	buckets  int
	moment   int
	bucketOf map[int]int // of each slot
	putAt    map[int]int // the moment at which a slot's Insert was done
	markedAt map[int]int
	order    map[int][]int // by bucket: the slots whose Insert is done, the last one first
	inserts  map[int]*chain.Insert[string]
	removes  map[int]*chain.Remove[string]
	walks    []*journey
	steps    map[machine]int
	own      int // slots that their own Remove has unlinked
}

// journey is a walk, and what it was seen to do.
type journey struct {
	walk   *chain.Walk[string]
	bucket int
	behind int // the slot of Behind; 0: it is a Walk
	from   int // the moment of its first step; 0: none yet
	to     int // the moment at which it was ended
	stops  []int
}

func newStory(t *testing.T, slots, buckets int) *story {
	return &story{
		world: newWorld(t, slots, slots, buckets), buckets: buckets,
		bucketOf: map[int]int{}, putAt: map[int]int{}, markedAt: map[int]int{}, order: map[int][]int{},
		inserts: map[int]*chain.Insert[string]{}, removes: map[int]*chain.Remove[string]{}, steps: map[machine]int{},
	}
}

func (s *story) insert(bucket, slot int) {
	s.bucketOf[slot] = bucket
	s.inserts[slot] = s.index.Insert(bucket, slot)
}

func (s *story) remove(slot int) { s.removes[slot] = s.index.Remove(s.bucketOf[slot], slot) }

func (s *story) walk(bucket int) {
	s.walks = append(s.walks, &journey{walk: s.index.Walk(bucket), bucket: bucket})
}

func (s *story) walkBehind(slot int) {
	s.walks = append(s.walks, &journey{walk: s.index.Behind(slot), bucket: s.bucketOf[slot], behind: slot})
}

// workers tells the machines that are at work, as functions that step them, in an order that is always the same.
func (s *story) workers() []func() {
	var work []func()
	slots, _ := s.arena.Shape()
	for slot := 1; slot <= slots; slot++ {
		if s.inserts[slot] != nil && s.putAt[slot] == 0 {
			work = append(work, func() { s.stepInsert(slot) })
		}
		if m := s.removes[slot]; m != nil && s.steps[m] >= 0 {
			work = append(work, func() { s.stepRemove(slot) })
		}
	}
	for _, j := range s.walks {
		if j.to == 0 {
			work = append(work, func() { s.stepWalk(j) })
		}
	}
	return work
}

// count counts the steps of a machine; one that is done has -1.
func (s *story) count(m machine, done bool) {
	n, _ := s.arena.Shape()
	if s.steps[m]++; s.steps[m] > (3*n+2)*(3*n+8) {
		s.t.Fatalf("P4.10: a machine was stepped %d times and is not done", s.steps[m])
	}
	if done {
		s.steps[m] = -1
	}
}

func (s *story) stepInsert(slot int) {
	s.moment++
	m := s.inserts[slot]
	done := s.step(m)
	s.count(m, done)
	if done {
		s.putAt[slot] = s.moment
		b := s.bucketOf[slot]
		s.order[b] = append([]int{slot}, s.order[b]...)
		if m.Code() != api.OK {
			s.t.Fatalf("P4.9: Insert of %d: %d", slot, m.Code())
		}
	}
	s.look()
}

func (s *story) stepRemove(slot int) {
	s.moment++
	m := s.removes[slot]
	before := slices.Contains(s.linked(s.bucketOf[slot]), slot)
	done := s.step(m)
	s.count(m, done)
	if s.markedAt[slot] == 0 && s.link(slot)%2 == 1 {
		s.markedAt[slot] = s.moment
	}
	if m.Marked() != (s.markedAt[slot] != 0) {
		s.t.Fatalf("P4.8: Marked of %d: %v", slot, m.Marked())
	}
	linked := s.linked(s.bucketOf[slot])
	if done && (m.Code() != api.OK || slices.Contains(linked, slot)) {
		s.t.Fatalf("P4.9: a done Remove of %d: %d, linked %v", slot, m.Code(), linked)
	}
	if before && !slices.Contains(linked, slot) {
		s.own++
	}
	s.look()
}

// linked tells all slots that can be come to from a bucket's head, the marked ones too.
func (s *story) linked(bucket int) []int {
	var met []int
	for word := s.index.Head(bucket); word/2 <= 4096; word = s.link(int(word / 2)) {
		if met = append(met, int(word/2)); len(met) > 4096 {
			s.t.Fatalf("P4.9: a ring in the bucket %d", bucket)
		}
	}
	return met
}

func (s *story) unmarked(slots []int) []int {
	return slices.DeleteFunc(slices.Clone(slots), func(slot int) bool { return s.link(slot)%2 == 1 })
}

func (s *story) stepWalk(j *journey) {
	s.moment++
	if j.from == 0 {
		j.from = s.moment
	}
	arrived := s.step(j.walk)
	s.count(j.walk, j.walk.Ended())
	if arrived && j.walk.Slot() != 0 {
		j.stops = append(j.stops, j.walk.Slot())
	}
	if arrived != (j.walk.Slot() != 0 || j.walk.Ended()) {
		s.t.Fatalf("P4.6: a step answers %v at %d", arrived, j.walk.Slot())
	}
	if j.walk.Ended() {
		j.to = s.moment
		s.judge(j)
	}
}

// look holds every bucket's List against the Inserts that are done and the marks.
func (s *story) look() {
	for b := range s.buckets {
		list, _ := s.index.List(b)
		if right := s.unmarked(s.order[b]); !slices.Equal(list, right) {
			s.t.Fatalf("P4.9: List(%d) at the moment %d: %v, want %v", b, s.moment, list, right)
		}
	}
}

// judge holds an ended walk against the third point of P4.9.
func (s *story) judge(j *journey) {
	var may, must []int
	for _, slot := range s.order[j.bucket] {
		if s.putAt[slot] > j.from || j.behind != 0 && s.putAt[slot] >= s.putAt[j.behind] {
			continue
		}
		marked := s.markedAt[slot]
		if marked == 0 || marked > j.from {
			may = append(may, slot)
		}
		if marked == 0 {
			must = append(must, slot)
		}
	}
	if j.walk.Code() != api.OK {
		s.t.Fatalf("P4.9: a walk's code: %d", j.walk.Code())
	}
	left := may
	for _, slot := range j.stops { // in the order of may, and none twice
		i := slices.Index(left, slot)
		if i < 0 {
			s.t.Fatalf("P4.9: a walk stood at %v, and may have stood at %v", j.stops, may)
		}
		left = left[i+1:]
	}
	for _, slot := range must {
		if !slices.Contains(j.stops, slot) {
			s.t.Fatalf("P4.9: a walk stood at %v, and had to stand at %v", j.stops, must)
		}
	}
}

// rest is what has to hold when no machine is at work.
func (s *story) rest() {
	linked, puts := 0, len(s.inserts)
	for b := range s.buckets {
		list, _ := s.index.List(b)
		held, _ := s.index.Held(b)
		if held != len(list) {
			s.t.Fatalf("P4.9: at rest bucket %d holds %d, and its List is %v", b, held, list)
		}
		linked += held
	}
	helped := 0
	for slot, m := range s.removes {
		if !m.Marked() || s.markedAt[slot] == 0 {
			s.t.Fatalf("P4.9: the Remove of %d has not put its mark", slot)
		}
		helped += m.Helped()
	}
	if gone := puts - linked; gone != len(s.removes) || helped+s.own != gone {
		s.t.Fatalf("P4.9: %d slots were unlinked, %d by their own and %d by other ones of %d Removes", gone, s.own, helped, len(s.removes))
	}
}

// tell tells a story by choices: choose picks one of so many workers. next may begin further machines.
func (s *story) tell(choose func(n int) int, next func()) {
	for {
		next()
		work := s.workers()
		if len(work) == 0 {
			s.rest()
			return
		}
		work[choose(len(work))]()
	}
}

// all tells a story in every order of its machines' steps.
func all(t *testing.T, lay func(s *story)) int {
	var path, widths []int
	for told := 1; ; told++ {
		s, at := newStory(t, 4, 1), 0
		lay(s)
		s.tell(func(n int) int {
			if at == len(path) {
				path, widths = append(path, 0), append(widths, n)
			}
			at++
			return path[at-1]
		}, func() {})
		for len(path) > 0 && path[len(path)-1]+1 == widths[len(path)-1] {
			path, widths = path[:len(path)-1], widths[:len(widths)-1]
		}
		if len(path) == 0 {
			return told
		}
		path[len(path)-1]++
	}
}

// with puts slots into bucket 0 ahead of the story's machines.
func (s *story) with(slots ...int) {
	for _, slot := range slots {
		s.insert(0, slot)
		for s.putAt[slot] == 0 {
			s.stepInsert(slot)
		}
	}
}

// mark begins to remove a slot, up to its mark.
func (s *story) mark(slot int) {
	s.remove(slot)
	s.stepRemove(slot)
	s.stepRemove(slot)
}

func TestEveryOrderOfAFewMachines(t *testing.T) {
	for name, lay := range map[string]func(*story){
		"two inserts":                  func(s *story) { s.insert(0, 1); s.insert(0, 2) },
		"an insert and a removal":      func(s *story) { s.with(1, 2); s.insert(0, 3); s.remove(2) },
		"an insert and one behind":     func(s *story) { s.with(1, 2); s.insert(0, 3); s.remove(1) },
		"neighbours":                   func(s *story) { s.with(1, 2, 3); s.remove(1); s.remove(2) },
		"the first two":                func(s *story) { s.with(1, 2, 3); s.remove(3); s.remove(2) },
		"the first and the last":       func(s *story) { s.with(1, 2, 3); s.remove(3); s.remove(1) },
		"a walk past a removal":        func(s *story) { s.with(1, 2, 3, 4); s.remove(2); s.walk(0) },
		"a walk behind what is gone":   func(s *story) { s.with(1, 2, 3, 4); s.remove(3); s.walkBehind(3) },
		"a walk and an insert":         func(s *story) { s.with(1, 2); s.insert(0, 3); s.walk(0) },
		"two marked slots and a walk":  func(s *story) { s.with(1, 2); s.mark(1); s.mark(2); s.walk(0) },
		"an insert, a removal, a walk": func(s *story) { s.with(1); s.insert(0, 2); s.remove(1); s.walk(0) },
	} {
		t.Run(name, func(t *testing.T) {
			t.Parallel()
			if n := all(t, lay); n < 30 {
				t.Errorf("only %d orders", n)
			}
		})
	}
}

// chance begins machines and steps them as chance has it.
func chance(t *testing.T, seed int64) *story {
	source := rand.New(rand.NewSource(seed))
	slots := 1 + source.Intn(9)
	s := newStory(t, slots, 1+source.Intn(3))
	favourite := source.Intn(4)
	choose := func(n int) int {
		if source.Intn(3) > 0 { // one that is stepped much, so that others fall behind
			return favourite % n
		}
		return source.Intn(n)
	}
	begun, walks := 0, 0
	s.tell(choose, func() {
		if source.Intn(6) == 0 {
			favourite = source.Intn(9)
		}
		if begun < slots && source.Intn(4) == 0 {
			begun++
			s.insert(source.Intn(s.buckets), begun)
		}
		slot := 1 + source.Intn(slots)
		if s.putAt[slot] != 0 && s.removes[slot] == nil && source.Intn(4) == 0 {
			s.remove(slot)
		}
		if walks < 6 && source.Intn(5) == 0 {
			walks++
			if s.putAt[slot] != 0 && walks%2 == 0 {
				s.walkBehind(slot)
			} else {
				s.walk(source.Intn(s.buckets))
			}
		}
	})
	return s
}

func TestManyOrdersOfManyMachines(t *testing.T) {
	tries, helped := 0, 0
	for seed := range int64(3000) {
		s := chance(t, seed)
		for _, m := range s.inserts {
			tries += m.Tries()
		}
		for _, m := range s.removes {
			helped += m.Helped()
		}
		if t.Failed() {
			t.Fatalf("seed %d", seed)
		}
	}
	if tries < 100 || helped < 100 {
		t.Errorf("the runs hardly met one another: %d tries, %d helped", tries, helped)
	}
}

// The machines are played by schedules, as the layers above play them.
func TestMachinesOfSeveralWorkers(t *testing.T) {
	source := rand.New(rand.NewSource(4))
	for range 300 {
		w := newWorld(t, 6, 6, 2)
		w.put(0, 1, 2, 3)
		h, _ := sched.New[sched.Machine](3)
		removal, other := w.index.Remove(0, 2), w.index.Remove(0, 3)
		inserts := []*chain.Insert[string]{w.index.Insert(0, 4), w.index.Insert(0, 5), w.index.Insert(1, 6)}
		h.Submit(0, 0, removal, inserts[0])
		h.Submit(1, 10, other, inserts[1])
		h.Submit(2, 20, inserts[2])
		text := make([]byte, source.Intn(30))
		for i := range text {
			text[i] = byte(source.Intn(3) + 32*source.Intn(5))
		}
		h.Play(1000, sched.Decode(string(text))...)
		h.Drain(1000)
		list, _ := w.index.List(0)
		held, _ := w.index.Held(0)
		if len(list) != 3 || held != 3 || list[2] != 1 || list[0]+list[1] != 4+5 {
			t.Errorf("P4.9: by the schedule %q: %v, %d held", text, list, held)
		}
		want(t, "P4.9: marks", []bool{removal.Marked(), other.Marked()}, []bool{true, true})
		w.holds("P4.9", 1, 1, 6)
	}
}

// alone steps a machine till it is done, and tells how many steps that took.
func alone(m machine, ended func() bool) int {
	for n := 1; n < 1000; n++ {
		if done := m.Step(); done && (ended == nil || ended()) {
			return n
		}
	}
	return 1000
}

// From wherever the others have left it, a machine that is stepped alone is done soon.
func TestAlone(t *testing.T) {
	worst := map[string]int{}
	for seed := range int64(2000) {
		source := rand.New(rand.NewSource(seed))
		slots := 2 + source.Intn(5)
		w := newWorld(t, slots, slots, 1)
		for s := 2; s <= slots; s++ {
			if source.Intn(2) == 0 {
				w.put(0, s)
			}
		}
		insert, walk, remove := w.index.Insert(0, 1), w.index.Walk(0), w.index.Remove(0, 2)
		others := []machine{insert, walk, remove}
		for s := 3; s <= slots; s++ {
			others = append(others, w.index.Remove(0, s), w.index.Insert(0, s))
		}
		for range source.Intn(40) {
			others[source.Intn(len(others))].Step()
		}
		for _, c := range []struct {
			name  string
			steps int
			bound int
		}{
			{"insert", alone(insert, nil), 5},
			{"walk", alone(walk, walk.Ended), slots + 1},
			{"remove", alone(remove, nil), 4*slots + 12},
		} {
			if worst[c.name] = max(worst[c.name], c.steps); c.steps > c.bound {
				t.Fatalf("P4.10: seed %d: %s took %d steps alone, %d slots", seed, c.name, c.steps, slots)
			}
		}
	}
	want(t, "P4.10: the longest way of an insert", worst["insert"], 5)
	if worst["walk"] < 5 || worst["remove"] < 12 {
		t.Errorf("the runs were short: %v", worst)
	}
}

// Not a swap fails, and no access is made twice, where nobody comes between.
func TestNoSwapFailsAlone(t *testing.T) {
	w := newWorld(t, 8, 8, 1)
	for s := range 8 {
		m := w.index.Insert(0, s+1)
		want(t, "P4.10: an insert", []any{w.run(m), m.Tries()}, []any{4, 0})
	}
	for i, s := range []int{8, 1, 4} {
		m := w.index.Remove(0, s)
		steps := []int{2 + 1 + 2, 2 + 1 + 7 + 1, 2 + 1 + 4 + 1}[i]
		want(t, fmt.Sprintf("P4.10: the removal of %d", s), []any{w.run(m), m.Helped()}, []any{steps, 0})
	}
	walk := w.index.Walk(0)
	n := w.accesses()
	want(t, "P4.10: a walk", []any{w.stops(walk), w.accesses() - n}, []any{[]int{7, 6, 5, 3, 2}, 1 + 5})
}
