package ladder_test

import (
	"fmt"
	"math/rand"
	"slices"
	"strings"
	"sync"
	"testing"

	"strata/api"
	"strata/sched"
)

// story is a run of many machines by the chapter's rules, with what has to hold of it at every moment.
type story struct {
	*world
	moment  int
	known   bool        // what comes now has been looked at before
	inAt    map[int]int // the moment at which a slot came in; 0: it has not
	outAt   map[int]int // the moment at which it went out
	inserts map[int]*job
	removes map[int][]*job
	walks   []*journey
	jobs    []*job // all inserts and removes, in the order in which they were begun
}

// job is an Insert or a Remove, and how far it is.
type job struct {
	machine
	slot        int
	steps       int
	begun, done bool
}

// journey is a walk, and what it was seen to do.
type journey struct {
	walk  *walk
	low   string
	from  int // the moment of its first step; 0: none yet
	to    int // the moment at which it was ended
	stops []int
}

func newStory(t *testing.T, slots, levels int, names ...string) *story {
	return &story{
		world: newWorld(t, slots, levels, names...),
		inAt:  map[int]int{}, outAt: map[int]int{}, inserts: map[int]*job{}, removes: map[int][]*job{},
	}
}

func (s *story) begin(m machine, slot int) *job {
	j := &job{machine: m, slot: slot}
	s.jobs = append(s.jobs, j)
	return j
}

func (s *story) insert(slot int) { s.inserts[slot] = s.begin(s.ladder.Insert(slot), slot) }

func (s *story) remove(slot int) {
	s.removes[slot] = append(s.removes[slot], s.begin(s.ladder.Remove(slot), slot))
}

func (s *story) walk(low string) {
	s.walks = append(s.walks, &journey{walk: s.ladder.Walk(low), low: low})
}

// work tells the machines that are at work, as functions that step them, in an order that is always the same.
func (s *story) work() []func() {
	var all []func()
	for _, j := range s.jobs {
		if !j.done {
			all = append(all, func() { s.stepJob(j) })
		}
	}
	for _, j := range s.walks {
		if j.to == 0 {
			all = append(all, func() { s.stepWalk(j) })
		}
	}
	return all
}

func (s *story) stepJob(j *job) {
	s.moment++
	j.begun, j.done = true, s.step(j.machine)
	if j.steps++; j.steps > 100000 {
		s.t.Fatalf("P5.10: a machine was stepped %d times and is not done", j.steps)
	}
	if j == s.inserts[j.slot] && j.Code() != api.OK {
		s.t.Fatalf("P5.7: Insert of %d: %d", j.slot, j.Code())
	}
	s.note()
	if !s.known {
		s.look()
	}
}

// note notes which slots have come in or gone out.
func (s *story) note() {
	list, _ := s.ladder.List(0)
	for slot := range s.inserts {
		is := slices.Contains(list, slot)
		switch {
		case is && s.inAt[slot] == 0:
			s.inAt[slot] = s.moment
		case is && s.outAt[slot] != 0:
			s.t.Fatalf("P5.6: slot %d has come in again", slot)
		case !is && s.inAt[slot] != 0 && s.outAt[slot] == 0:
			s.outAt[slot] = s.moment
		}
	}
}

// look is P5.6 and P5.7, at every moment.
func (s *story) look() {
	var rows, lists [][]int
	for v := range s.levels {
		row := s.row(v)
		list, _ := s.ladder.List(v)
		rows, lists = append(rows, row), append(lists, list)
		if sorted := s.sorted(row...); !slices.Equal(row, sorted) || len(slices.Compact(sorted)) != len(row) {
			s.t.Fatalf("P5.6: the row of level %d: %v", v, row)
		}
		if held, _ := s.ladder.Held(v); held != len(row) {
			s.t.Fatalf("P5.3: Held(%d) is %d, the row %v", v, held, row)
		}
		for _, slot := range list {
			if v > 0 && !slices.Contains(lists[v-1], slot) {
				s.t.Fatalf("P5.6: List(%d) has %d, List(%d) is %v", v, slot, v-1, lists[v-1])
			}
		}
	}
	for slot, j := range s.inserts {
		x, _ := s.arena.Payload(slot)
		for v := range s.levels {
			if j.done && !s.anyBegun(slot) && v < x.Tall && !slices.Contains(lists[v], slot) {
				s.t.Fatalf("P5.7: slot %d was put in, and List(%d) is %v", slot, v, lists[v])
			}
			if s.takenOut(slot) && slices.Contains(rows[v], slot) {
				s.t.Fatalf("P5.7: slot %d was taken out, and the row of level %d is %v", slot, v, rows[v])
			}
		}
	}
}

func (s *story) anyBegun(slot int) bool {
	return slices.ContainsFunc(s.removes[slot], func(j *job) bool { return j.begun })
}

func (s *story) takenOut(slot int) bool {
	return slices.ContainsFunc(s.removes[slot], func(j *job) bool { return j.done && j.Code() == api.OK })
}

func (s *story) stepWalk(j *journey) {
	s.moment++
	if j.from == 0 {
		j.from = s.moment
	}
	arrived := s.step(j.walk)
	if arrived && j.walk.Slot() != 0 {
		j.stops = append(j.stops, j.walk.Slot())
		if s.links(j.walk.Slot())[0]%2 == 1 {
			s.t.Fatalf("0.1: a walk stands at %d, which is marked", j.walk.Slot())
		}
	}
	if arrived != (j.walk.Slot() != 0 || j.walk.Ended()) {
		s.t.Fatalf("P5.5: a step answers %v at %d", arrived, j.walk.Slot())
	}
	if j.walk.Ended() {
		j.to = s.moment
		s.judge(j)
	}
}

// judge is P5.9.
func (s *story) judge(j *journey) {
	if j.walk.Code() != api.OK {
		s.t.Fatalf("P5.9: a walk's code: %d", j.walk.Code())
	}
	if sorted := s.sorted(j.stops...); !slices.Equal(sorted, j.stops) || len(slices.Compact(sorted)) != len(j.stops) {
		s.t.Fatalf("P5.9: a walk tells %v", j.stops)
	}
	for slot := range s.inserts {
		x, _ := s.arena.Payload(slot)
		in, out := s.inAt[slot], s.outAt[slot]
		may := x.Name >= j.low && in != 0 && (out == 0 || out > j.from)
		must := may && in < j.from && out == 0
		told := slices.Contains(j.stops, slot)
		if told && !may || !told && must {
			s.t.Fatalf("P5.9: a walk from %q at work from %d to %d told %v; slot %d (%q) was in from %d to %d", j.low, j.from, j.to, j.stops, slot, x.Name, in, out)
		}
	}
}

// rest is what has to hold when no machine is at work.
func (s *story) rest() {
	var right []int
	for slot := range s.inserts {
		all := s.removes[slot]
		good := 0
		for _, j := range all {
			switch j.Code() {
			case api.OK:
				good++
			case api.ErrAbsent:
			default:
				s.t.Fatalf("P5.8: a Remove of %d: %d", slot, j.Code())
			}
		}
		if len(all) > 0 && good != 1 {
			s.t.Fatalf("P5.8: %d of %d Removes of %d are done with OK", good, len(all), slot)
		}
		if len(all) == 0 {
			right = append(right, slot)
		}
	}
	if list, _ := s.ladder.List(0); !slices.Equal(list, s.sorted(right...)) {
		s.t.Fatalf("P5.7: at rest List(0) is %v, want %v", list, s.sorted(right...))
	}
	for v := range s.levels {
		list, _ := s.ladder.List(v)
		if held, _ := s.ladder.Held(v); held != len(list) {
			s.t.Fatalf("P5.7: at rest Held(%d) is %d, and List %v", v, held, list)
		}
	}
	if s.arena.Misses() != 0 {
		s.t.Fatalf("P5.5: %d accesses met what is free", s.arena.Misses())
	}
}

// tell tells a story by choices: choose picks one of so many machines. next may begin further ones.
func (s *story) tell(choose func(n int) int, next func()) {
	for {
		next()
		work := s.work()
		if len(work) == 0 {
			s.rest()
			return
		}
		work[choose(len(work))]()
	}
}

// put puts slots in ahead of the story's machines.
func (s *story) put(slots ...int) {
	for _, slot := range slots {
		s.insert(slot)
		for !s.inserts[slot].done {
			s.stepJob(s.inserts[slot])
		}
	}
}

// mark begins to remove a slot, up to its lowest mark.
func (s *story) mark(slot int) {
	s.remove(slot)
	for s.outAt[slot] == 0 {
		s.stepJob(s.removes[slot][0])
	}
}

// plot is a story that is told in every order of its machines' steps.
type plot struct {
	name   string
	levels int
	names  []string
	lay    func(s *story)
}

// tellAll tells a plot in every order, but goes on only once from moments that are alike; it tells how many moments there are.
func (p plot) tellAll(t *testing.T) int {
	seen := map[string]int{}
	paths := [][]int{nil}
	for len(paths) > 0 {
		path := paths[len(paths)-1]
		paths = paths[:len(paths)-1]
		s := p.retell(t, path)
		state := s.state()
		if seen[state]++; seen[state] > 1 {
			continue
		}
		work := len(s.work())
		if work == 0 {
			s.rest()
		}
		for i := range work {
			paths = append(paths, append(slices.Clone(path), i))
			p.retell(t, path).goAlone(i)
		}
	}
	return len(seen)
}

// retell tells a plot up to a moment; all but the last step has been looked at already.
func (p plot) retell(t *testing.T, path []int) *story {
	s := newStory(t, len(p.names), p.levels, p.names...)
	s.known = true
	p.lay(s)
	for i, choice := range path {
		s.known = i+1 < len(path)
		s.work()[choice]()
	}
	return s
}

// goAlone steps one of the machines at work, while the others stand still.
func (s *story) goAlone(i int) {
	s.known = true
	var open []*job
	for _, j := range s.jobs {
		if !j.done {
			open = append(open, j)
		}
	}
	if i >= len(open) {
		s.walkAlone(s.walks[i-len(open)])
		return
	}
	for n := 0; !open[i].done; n++ {
		if n > 1000 {
			s.t.Fatalf("P5.10: a machine that goes on alone is not done")
		}
		s.stepJob(open[i])
	}
}

// walkAlone looks how long a walk takes to arrive, each time.
func (s *story) walkAlone(j *journey) {
	slots, _ := s.arena.Shape()
	for n := 1; j.to == 0; n++ {
		if n > s.levels*(slots+1)+slots+1 {
			s.t.Fatalf("P5.10: a walk that goes on alone has not arrived by step %d", n)
		}
		if s.stepWalk(j); j.walk.Slot() != 0 {
			n = 0
		}
	}
}

// state tells all that the rest of a story, and what is to be held against it, hangs on.
func (s *story) state() string {
	var b strings.Builder
	for v := range s.levels {
		fmt.Fprintln(&b, s.ladder.Head(v))
	}
	for _, slot := range s.arena.Live() {
		fmt.Fprintln(&b, s.links(slot), s.inAt[slot] != 0, s.outAt[slot] != 0)
	}
	for _, j := range s.jobs {
		fmt.Fprintln(&b, j.begun, j.done, j.machine.(interface{ State() string }).State())
	}
	for _, j := range s.walks {
		fmt.Fprintln(&b, j.walk.State(), j.stops, j.from != 0)
		for _, slot := range s.arena.Live() {
			fmt.Fprint(&b, s.inAt[slot] < j.from, s.outAt[slot] > j.from)
		}
	}
	return b.String()
}

func TestEveryOrderOfAFewMachines(t *testing.T) {
	for _, p := range []plot{
		{"two inserts", 1, []string{"b1", "a1"}, func(s *story) { s.insert(1); s.insert(2) }},
		{"two inserts behind one", 1, []string{"a1", "c1", "b1"}, func(s *story) { s.put(1); s.insert(2); s.insert(3) }},
		{"two inserts of height 2", 2, []string{"b2", "a2"}, func(s *story) { s.insert(1); s.insert(2) }},
		{"two inserts of one key", 2, []string{"a2", "a1"}, func(s *story) { s.insert(1); s.insert(2) }},
		{"an insert behind what is taken out", 1, []string{"a1", "b1"}, func(s *story) { s.put(1); s.remove(1); s.insert(2) }},
		{"an insert ahead of what is taken out", 1, []string{"b1", "a1"}, func(s *story) { s.put(1); s.remove(1); s.insert(2) }},
		{"an insert of height 2 and a removal", 2, []string{"a2", "b2"}, func(s *story) { s.put(1); s.remove(1); s.insert(2) }},
		{"two removals of one slot", 2, []string{"a2", "b1"}, func(s *story) { s.put(1, 2); s.remove(1); s.remove(1) }},
		{"three removals of one slot", 1, []string{"a1"}, func(s *story) { s.put(1); s.remove(1); s.remove(1); s.remove(1) }},
		{"neighbours", 1, []string{"a1", "b1", "c1"}, func(s *story) { s.put(1, 2, 3); s.remove(1); s.remove(2) }},
		{"neighbours of height 2", 2, []string{"a2", "b2"}, func(s *story) { s.put(1, 2); s.remove(1); s.remove(2) }},
		{"a walk past a removal", 2, []string{"a2", "b1", "c1"}, func(s *story) { s.put(1, 2, 3); s.remove(1); s.walk("b") }},
		{"a walk and the next one's removal", 2, []string{"a1", "b2", "c1"}, func(s *story) { s.put(1, 2, 3); s.remove(2); s.walk("") }},
		{"a walk and an insert", 2, []string{"a2", "c1", "b2"}, func(s *story) { s.put(1, 2); s.insert(3); s.walk("a") }},
		{"a walk past two marked slots", 2, []string{"a2", "b1", "c1"}, func(s *story) { s.put(1, 2, 3); s.mark(1); s.mark(2); s.walk("b") }},
		{"an insert, a removal, a walk", 1, []string{"a1", "b1"}, func(s *story) { s.put(1); s.remove(1); s.insert(2); s.walk("b") }},
		{"an insert between two that are taken out", 1, []string{"a1", "c1", "b1"}, func(s *story) { s.put(1, 2); s.remove(1); s.remove(2); s.insert(3) }},
		{"three inserts of height 2", 2, []string{"a2", "b2", "c2"}, func(s *story) { s.insert(3); s.insert(1); s.insert(2) }},
		{"three inserts of one key", 2, []string{"a2", "a1", "a2"}, func(s *story) { s.insert(3); s.insert(1); s.insert(2) }},
		{"three neighbours", 1, []string{"a1", "b1", "c1"}, func(s *story) { s.put(1, 2, 3); s.remove(2); s.remove(1); s.remove(3) }},
		{"removals of height 3 and an insert", 3, []string{"a3", "b3", "c3"}, func(s *story) { s.put(1, 2); s.remove(2); s.insert(3) }},
		{"a walk, and all goes on at once", 2, []string{"a2", "b1", "c2"}, func(s *story) { s.put(1, 2); s.remove(1); s.insert(3); s.walk("b") }},
		{"two removals of one slot, an insert and a walk", 1, []string{"a1", "b1", "c1"}, func(s *story) { s.put(1, 2); s.remove(1); s.remove(1); s.insert(3); s.walk("") }},
	} {
		t.Run(p.name, func(t *testing.T) {
			t.Parallel()
			n := p.tellAll(t)
			t.Logf("%d moments", n)
			if n < 30 {
				t.Error("these are few")
			}
		})
	}
}

// reuse frees what was taken out, when no machine is at work, and takes the slots into use for other keys.
func (s *story) reuse(source *rand.Rand) int {
	s.rest()
	freed := 0
	for slot := range s.inserts {
		if s.takenOut(slot) {
			freed++
			s.arena.Free(slot)
			delete(s.inserts, slot)
			delete(s.removes, slot)
			delete(s.inAt, slot)
			delete(s.outAt, slot)
		}
	}
	for range freed {
		s.alloc(someKey(source), 1+source.Intn(s.levels))
	}
	return freed
}

// chance begins machines and steps them as chance has it.
func chance(t *testing.T, seed int64) (s *story, reused int) {
	source := rand.New(rand.NewSource(seed))
	slots, levels := 1+source.Intn(8), 1+source.Intn(4)
	s = newStory(t, slots, levels)
	for range slots {
		s.alloc(someKey(source), 1+source.Intn(levels))
	}
	favourite := source.Intn(4)
	choose := func(n int) int {
		if source.Intn(3) > 0 { // one that is stepped much, so that others fall behind
			return favourite % n
		}
		return source.Intn(n)
	}
	walks, pause := 0, false
	next := func() {
		if source.Intn(6) == 0 {
			favourite = source.Intn(9)
		}
		slot := 1 + source.Intn(slots)
		j := s.inserts[slot]
		switch draw := source.Intn(5); {
		case pause:
		case j == nil && draw < 3:
			s.insert(slot)
		case j != nil && j.done && len(s.removes[slot]) < 2 && draw == 3:
			s.remove(slot)
		case walks < 8 && draw == 4:
			walks++
			s.walk(someKey(source))
		}
	}
	for range 3 {
		pause = false
		for range 60 {
			next()
			if work := s.work(); len(work) > 0 {
				work[choose(len(work))]()
			}
		}
		pause = true
		s.tell(choose, next)
		reused += s.reuse(source)
	}
	return s, reused
}

func TestManyOrdersOfManyMachines(t *testing.T) {
	reused, walks, absent := 0, 0, 0
	for seed := range int64(1500) {
		s, n := chance(t, seed)
		if t.Failed() {
			t.Fatalf("seed %d", seed)
		}
		reused += n
		walks += len(s.walks)
		for _, j := range s.jobs {
			if j.Code() == api.ErrAbsent {
				absent++
			}
		}
	}
	if reused < 1000 || walks < 1000 || absent < 200 {
		t.Errorf("the runs were short: %d slots used again, %d walks, %d late removals", reused, walks, absent)
	}
}

// Of several Inserts of one slot, one behind the other, the first alone is done with OK, whatever others do meanwhile.
func TestInsertsOfOneSlot(t *testing.T) {
	for seed := range int64(200) {
		source := rand.New(rand.NewSource(seed))
		w := newWorld(t, 4, 3, "b3", "a2", "b1", "c3")
		others := []machine{w.ladder.Insert(2), w.ladder.Insert(3), w.ladder.Insert(4), w.ladder.Walk("")}
		for i := range 4 {
			m := w.ladder.Insert(1)
			for !w.step(m) {
				w.step(others[source.Intn(4)])
			}
			right := api.ErrTwice
			if i == 0 {
				right = api.OK
			}
			want(t, "P5.8: Insert(1)", m.Code(), right)
			if i == 2 {
				w.run(w.ladder.Remove(1))
			}
		}
	}
}

// The machines are played by schedules, as the layers above play them.
func TestMachinesOfSeveralWorkers(t *testing.T) {
	source := rand.New(rand.NewSource(5))
	for range 500 {
		w := newWorld(t, 7, 3, "b3", "c2", "a1", "b2", "d3", "a3", "c1")
		w.put(1, 2, 3)
		h, _ := sched.New[sched.Machine](3)
		out := []*remove{w.ladder.Remove(1), w.ladder.Remove(1), w.ladder.Remove(3)}
		in := []*insert{w.ladder.Insert(4), w.ladder.Insert(5), w.ladder.Insert(6), w.ladder.Insert(7)}
		h.Submit(0, 0, out[0], in[0], in[1])
		h.Submit(1, 10, out[1], in[2])
		h.Submit(2, 20, in[3], out[2])
		text := make([]byte, source.Intn(40))
		for i := range text {
			text[i] = byte(source.Intn(3) + 32*source.Intn(5))
		}
		h.Play(1000, sched.Decode(string(text))...)
		h.Drain(1000)
		what := fmt.Sprintf("P5.7: by the schedule %q", text)
		w.holds(what, 0, 5, 6, 4, 2, 7, 5)
		w.holds(what, 1, 4, 6, 4, 2, 5)
		w.holds(what, 2, 2, 6, 5)
		codes := []api.Errno{out[0].Code(), out[1].Code()}
		slices.Sort(codes)
		want(t, what+": P5.8", codes, []api.Errno{api.OK, api.ErrAbsent})
		want(t, what, []any{out[2].Code(), in[0].Code(), in[1].Code(), in[2].Code(), in[3].Code(), h.Idle()}, []any{0, 0, 0, 0, 0, true})
	}
}

// Links and heads are atomic words: workers that truly run at the same time don't lose each other's slots.
func TestMachinesOfGoroutines(t *testing.T) {
	const workers, each = 4, 60
	w := newWorld(t, workers*each, 4)
	for i := range workers * each {
		w.alloc(string(rune('a'+i*7%10)), 1+i%4)
	}
	var all sync.WaitGroup
	for worker := range workers {
		all.Go(func() {
			for i := range each {
				slot := 1 + worker + i*workers
				for m := w.ladder.Insert(slot); !m.Step(); {
				}
				if i%3 == 0 {
					for m := w.ladder.Remove(slot); !m.Step(); {
					}
				}
				for m := w.ladder.Walk("e"); !m.Ended(); {
					m.Step()
				}
			}
		})
	}
	all.Wait()
	var left []int
	for slot := 1; slot <= workers*each; slot++ {
		if (slot-1)/workers%3 != 0 {
			left = append(left, slot)
		}
	}
	w.holds("P5.7", 0, len(left), w.sorted(left...)...)
	want(t, "misses", w.arena.Misses(), 0)
}
