package txtab_test

import (
	"fmt"
	"math/rand"
	"runtime"
	"slices"
	"strings"
	"sync"
	"sync/atomic"
	"testing"

	"strata/api"
	"strata/sched"
	"strata/txtab"
)

// story is a run of many workers by the chapter's rules, with what has to hold of it at every moment.
type story struct {
	*world
	workers []*worker
	lives   []*life
	floor   uint64 // the highest that a Floor has told
	given   map[uint64]string
	freed   int
	aborts  int // Closes of aborted records that found a number
}

// life is one transaction.
type life struct {
	name    int
	id      int // 0: not open
	begin   uint64
	started bool           // its Start is done
	gone    bool           // its Leave or Quit has made its second step
	stamped bool           // its Leave has made its third step
	out     bool           // its record is freed
	before  map[*life]bool // those whose Leave had made its third step when its begin was drawn
	named   bool           // another has, or had, to do with its number
	passing bool           // it ends straight from Active: nobody may have to do with its number
	drawing bool           // a Draw of it has made its first step
	above   uint64         // what the clock had given out when the first Draw of it made its first step
	end     uint64
	aborted int // the Closes of aborted records that found its number
}

func (l *life) atWork() bool { return l.started && !l.gone }

// task is a machine, or a call, with what it is and how far it is.
type task struct {
	kind  string
	life  *life
	m     machine
	steps int
}

// worker does one task after the other.
type worker struct {
	task *task
	next func() *task // nil: none is left
	over bool
}

func newStory(t *testing.T, places int, clock uint64) *story {
	return &story{world: newWorld(t, places, clock, 0), given: map[uint64]string{}}
}

func (s *story) worker(next func() *task) { s.workers = append(s.workers, &worker{next: next}) }

// script is a worker that does tasks in their order; a task is made when it begins.
func (s *story) script(all ...func() *task) {
	s.worker(func() *task {
		if len(all) == 0 {
			return nil
		}
		begin := all[0]
		all = all[1:]
		return begin()
	})
}

// call is a machine of one step.
type call struct {
	do   func() api.Errno
	done bool
	code api.Errno
}

func (c *call) Step() bool {
	if !c.done {
		c.done, c.code = true, c.do()
	}
	return true
}

func (c *call) Code() api.Errno { return c.code }
func (c *call) State() string   { return fmt.Sprint(c.done, c.code) }

// life begins one that is not open yet.
func (s *story) life() *life {
	l := &life{name: len(s.lives)}
	s.lives = append(s.lives, l)
	return l
}

// The tasks: each is a function, so that it looks at its life's number when it begins.
func (s *story) open(l *life) func() *task {
	return func() *task {
		return &task{kind: "open", life: l, m: &call{do: func() api.Errno {
			l.id, _ = s.Open(api.TxInfo{}) // 0, if another one has taken the last place
			return api.OK
		}}}
	}
}

func (s *story) start(l *life) func() *task {
	return func() *task { return &task{kind: "start", life: l, m: s.Start(l.id)} }
}

func (s *story) moves(l *life, state int) func() *task {
	return func() *task {
		return &task{kind: "move", life: l, m: &call{do: func() api.Errno { return s.Move(l.id, state) }}}
	}
}

func (s *story) draw(l *life) func() *task {
	return func() *task { return &task{kind: "draw", life: l, m: s.Draw(l.id)} }
}

func (s *story) depend(l, on *life) func() *task {
	return func() *task {
		on.named = true
		return &task{kind: "depend", life: l, m: s.Depend(l.id, on.id)}
	}
}

func (s *story) close(l *life) func() *task {
	return func() *task { return &task{kind: "close", life: l, m: s.Close(l.id)} }
}

func (s *story) leave(l *life) func() *task {
	return func() *task { return &task{kind: "leave", life: l, m: s.Leave(l.id)} }
}

func (s *story) quit(l *life) func() *task {
	return func() *task { return &task{kind: "quit", life: l, m: s.Quit(l.id)} }
}

func (s *story) look() func() *task {
	return func() *task { return &task{kind: "floor", m: s.Floor()} }
}

// frees frees one with the highest floor that was told.
func (s *story) frees() func() *task {
	return func() *task {
		return &task{kind: "free", m: &call{do: func() api.Errno {
			_, e := s.Free(s.floor)
			return e
		}}}
	}
}

// work tells the workers that have something to do.
func (s *story) work() []*worker {
	var all []*worker
	for _, w := range s.workers {
		if w.task == nil && !w.over {
			w.task = w.next()
			w.over = w.task == nil
		}
		if w.task != nil {
			all = append(all, w)
		}
	}
	return all
}

func (s *story) fail(format string, args ...any) {
	s.t.Helper()
	s.t.Fatalf(format, args...)
}

// step makes a step of a worker's task and looks at all that has to hold.
func (s *story) step(w *worker) {
	task := w.task
	task.steps++
	clock, _ := s.Horizon()
	before := s.Inside()
	drawn := task.life != nil && task.life.id != 0 && before.Records[task.life.id-1].End != 0
	done := false
	if made := s.counts(func() { done = task.m.Step() }); made != [2]int{1, 0} {
		s.fail("P0.2: a step of %s made %d accesses and misses", task.kind, made)
	}
	if task.steps > 1000 {
		s.fail("a machine is not done: %s", task.kind)
	}
	if done {
		w.task = nil
		if task.m.Code() != api.OK {
			s.fail("%s of %d is done with %d", task.kind, task.life.id, task.m.Code())
		}
	}
	switch task.kind {
	case "start":
		s.seeStart(task, done)
	case "draw":
		s.seeDraw(task, clock, drawn, done)
	case "floor":
		s.seeFloor(task, done)
	case "free":
		s.seeFree(before)
	case "leave", "quit":
		task.life.gone = task.life.gone || task.steps == 2
		task.life.stamped = task.life.stamped || task.kind == "leave" && task.steps == 3
		task.life.out = task.life.out || task.kind == "quit" && done
	case "close":
		s.seeClose(task, before)
	}
	s.seeDependencies()
}

// give is P6.14's first half.
func (s *story) give(stamp uint64, to string) {
	if other := s.given[stamp]; other != "" {
		s.fail("P6.14: %d is %s and %s", stamp, other, to)
	}
	s.given[stamp] = to
}

func (s *story) seeStart(task *task, done bool) {
	l := task.life
	if task.steps == 3 {
		l.before = map[*life]bool{}
		for _, other := range s.lives {
			if other.stamped {
				l.before[other] = true
			}
		}
	}
	if done {
		l.started, l.begin = true, told(task.m)
		s.give(l.begin, fmt.Sprintf("the begin of life %d", l.name))
		if l.begin < s.floor {
			s.fail("P6.15: a floor of %d was told, and then one begins at %d", s.floor, l.begin)
		}
	}
}

func (s *story) seeDraw(task *task, clock uint64, drawn, done bool) {
	l := task.life
	if task.steps == 1 && !l.drawing {
		l.drawing = true
		if !drawn {
			l.above = clock
		}
	}
	if !done {
		return
	}
	end := told(task.m)
	if end <= l.above {
		s.fail("P6.14: the end %d, and the clock had given out %d", end, l.above)
	}
	if l.end == 0 {
		l.end = end
		s.give(end, fmt.Sprintf("the end of life %d", l.name))
	}
	if end != l.end {
		s.fail("P6.14: one Draw tells %d, another %d", l.end, end)
	}
}

func (s *story) seeFloor(task *task, done bool) {
	if !done {
		return
	}
	f := told(task.m)
	for _, l := range s.lives {
		if l.atWork() && l.begin < f {
			s.fail("P6.15: the floor is %d, and one with the begin %d is at work", f, l.begin)
		}
	}
	s.floor = max(s.floor, f)
}

// seeFree is P6.16.
func (s *story) seeFree(before txtab.Inside) {
	now := s.Inside()
	if len(now.Waiting) == len(before.Waiting) {
		return
	}
	s.freed++
	for _, r := range s.lives {
		if r.id != int(before.Waiting[0][0]) || r.out || !r.stamped {
			continue
		}
		r.out = true
		for _, l := range s.lives {
			if l.atWork() && !l.before[r] {
				s.fail("P6.16: life %d is freed while %d is at work, whose begin was drawn ahead of its stamp", r.name, l.name)
			}
		}
	}
}

// owner tells the life that has a record now.
func (s *story) owner(id int) *life {
	for _, l := range s.lives {
		if l.id == id && !l.out {
			return l
		}
	}
	return nil
}

// seeClose notes the numbers that a Close of an aborted record finds.
func (s *story) seeClose(task *task, before txtab.Inside) {
	was, is := before.Records[task.life.id-1], s.record(task.life.id)
	if is.State != api.TxAborted {
		return
	}
	for p, number := range was.Places {
		if number != 0 && number != is.Places[p] {
			s.owner(int(number)).aborted++
			s.aborts++
		}
	}
}

// seeDependencies is P6.17.
func (s *story) seeDependencies() {
	for _, w := range s.workers {
		if w.task != nil && w.task.steps > 0 && (w.task.kind == "depend" || w.task.kind == "close") {
			return
		}
	}
	all := s.Inside()
	for _, l := range s.lives {
		if l.id == 0 || l.out {
			continue
		}
		open := 0
		for _, r := range all.Records {
			if slices.Contains(r.Places[:], uint64(l.id)) {
				open++
			}
		}
		if word := all.Records[l.id-1].Word; word != uint64(l.aborted)<<32+uint64(open) {
			s.fail("P6.17: the word of %d is %x, want %d open, %d aborted", l.id, word, open, l.aborted)
		}
	}
}

// state tells all that the rest of a story, and what is to be held against it, hangs on.
func (s *story) state() string {
	var b strings.Builder
	fmt.Fprintln(&b, s.Inside(), s.floor, s.given)
	for _, l := range s.lives {
		fmt.Fprintln(&b, l.id, l.begin, l.started, l.gone, l.stamped, l.out, l.named, l.drawing, l.above, l.end, l.aborted)
		for _, other := range s.lives {
			fmt.Fprint(&b, l.before[other], " ")
		}
	}
	for _, w := range s.workers {
		fmt.Fprintln(&b, w.over)
		if w.task != nil {
			fmt.Fprintln(&b, w.task.kind, w.task.steps, w.task.m.(interface{ State() string }).State())
		}
	}
	return b.String()
}

// plot is a story that is told in every order of its workers' steps.
type plot struct {
	name   string
	places int
	lay    func(s *story)
}

// begun are lives that have begun ahead of the story.
func (s *story) begun(n int) []*life {
	all := make([]*life, n)
	for i := range all {
		all[i] = s.life()
		s.alone(s.open(all[i]), s.start(all[i]))
	}
	return all
}

// alone does tasks ahead of the story's workers.
func (s *story) alone(all ...func() *task) {
	for _, begin := range all {
		w := &worker{task: begin()}
		s.workers = append(s.workers, w)
		for w.task != nil {
			s.step(w)
		}
		s.workers = s.workers[:len(s.workers)-1]
	}
}

// commits is how a life ends that nothing comes between.
func (s *story) commits(l *life) []func() *task {
	return []func() *task{s.moves(l, api.TxPreparing), s.draw(l), s.moves(l, api.TxCommitted), s.close(l), s.leave(l)}
}

// retell tells a plot up to a moment; it tells how many workers have something to do then.
func (p plot) retell(t *testing.T, path []int) (*story, int) {
	s := newStory(t, p.places, 10)
	p.lay(s)
	for _, choice := range path {
		s.step(s.work()[choice])
	}
	return s, len(s.work())
}

// tellAll tells a plot in every order, but goes on only once from moments that are alike; it tells how many moments there are.
func (p plot) tellAll(t *testing.T) (moments, freed int) {
	seen := map[string]int{}
	paths := [][]int{nil}
	for len(paths) > 0 {
		path := paths[len(paths)-1]
		paths = paths[:len(paths)-1]
		s, work := p.retell(t, path)
		state := s.state()
		if seen[state]++; seen[state] > 1 {
			continue
		}
		freed += s.freed
		for i := range work {
			paths = append(paths, append(slices.Clone(path), i))
		}
	}
	return len(seen), freed
}

func TestEveryOrderOfAFewWorkers(t *testing.T) {
	for _, p := range []plot{
		{"two that begin, and a floor", 2, func(s *story) {
			a, b := s.life(), s.life()
			s.script(s.open(a), s.start(a))
			s.script(s.open(b), s.start(b))
			s.script(s.look())
		}},
		{"one that begins, and two floors", 2, func(s *story) {
			a := s.life()
			s.script(s.open(a), s.start(a))
			s.script(s.look())
			s.script(s.look())
		}},
		{"one leaves, one begins, and a sweeper", 2, func(s *story) {
			a, b := s.begun(1)[0], s.life()
			s.script(s.leave(a))
			s.script(s.open(b), s.start(b))
			s.script(s.look(), s.frees(), s.look(), s.frees())
		}},
		{"one leaves, one is at work, and a sweeper", 2, func(s *story) {
			all := s.begun(2)
			s.script(s.leave(all[0]))
			s.script(s.quit(all[1]))
			s.script(s.look(), s.frees(), s.frees())
		}},
		{"two leave, and two sweepers", 2, func(s *story) {
			all := s.begun(2)
			s.script(s.leave(all[0]))
			s.script(s.leave(all[1]))
			s.script(s.look(), s.frees())
			s.script(s.look(), s.frees(), s.frees())
		}},
		{"a place that is used again", 1, func(s *story) {
			a, b := s.begun(1)[0], s.life()
			s.script(s.quit(a), s.open(b), s.start(b), s.leave(b))
			s.script(s.look(), s.frees(), s.look(), s.frees())
		}},
		{"three Draws of one", 1, func(s *story) {
			a := s.begun(1)[0]
			s.script(s.draw(a))
			s.script(s.draw(a))
			s.script(s.draw(a), s.draw(a))
		}},
		{"two Draws, and one that begins", 2, func(s *story) {
			a, b := s.begun(1)[0], s.life()
			s.script(s.draw(a))
			s.script(s.draw(a))
			s.script(s.open(b), s.start(b), s.draw(b))
		}},
		{"one depends on one that commits", 2, func(s *story) {
			all := s.begun(2)
			s.script(s.commits(all[0])...)
			s.script(s.depend(all[1], all[0]), s.depend(all[1], all[0]))
		}},
		{"two depend on one that aborts", 3, func(s *story) {
			all := s.begun(3)
			s.script(s.moves(all[0], api.TxAborted), s.close(all[0]))
			s.script(s.depend(all[1], all[0]))
			s.script(s.depend(all[2], all[0]))
		}},
		{"one depends on two that end otherwise", 3, func(s *story) {
			all := s.begun(3)
			s.alone(s.moves(all[1], api.TxPreparing))
			s.script(s.moves(all[0], api.TxAborted), s.close(all[0]))
			s.script(s.moves(all[1], api.TxCommitted), s.close(all[1]))
			s.script(s.depend(all[2], all[0]), s.depend(all[2], all[1]))
		}},
		{"two that depend on each other", 2, func(s *story) {
			all := s.begun(2)
			s.script(s.depend(all[0], all[1]), s.moves(all[0], api.TxAborted), s.close(all[0]))
			s.script(s.depend(all[1], all[0]), s.moves(all[1], api.TxAborted), s.close(all[1]))
		}},
		{"the last place for a dependent", 10, func(s *story) {
			all := s.begun(10)
			for _, l := range all[3:] {
				s.alone(s.depend(l, all[0]))
			}
			s.script(s.depend(all[1], all[0]))
			s.script(s.depend(all[2], all[0]))
		}},
		{"a dependent that aborts and leaves first", 3, func(s *story) {
			all := s.begun(2)
			b := s.life()
			s.alone(s.depend(all[1], all[0]), s.moves(all[1], api.TxAborted), s.close(all[1]), s.moves(all[0], api.TxAborted))
			s.script(s.close(all[0]), s.leave(all[0]))
			s.script(s.leave(all[1]), s.open(b))
			s.script(s.look(), s.frees(), s.frees())
		}},
	} {
		t.Run(p.name, func(t *testing.T) {
			t.Parallel()
			n, freed := p.tellAll(t)
			t.Logf("%d moments, %d freed", n, freed)
			if n < 30 {
				t.Error("these are few")
			}
		})
	}
}

// player is a worker that lives many lives as chance has it.
type player struct {
	*story
	source *rand.Rand
	left   int // lives that are still to come
	life   *life
	plan   []func() *task // what it has settled on
}

func (p *player) next() *task {
	for len(p.plan) == 0 {
		if p.life == nil && p.left == 0 {
			return nil
		}
		p.settle()
	}
	begin := p.plan[0]
	p.plan = p.plan[1:]
	return begin()
}

// settle chooses what comes next.
func (p *player) settle() {
	switch {
	case p.life == nil:
		p.left--
		p.life = p.story.life()
		p.plan = append(p.plan, p.open(p.life))
	case p.life.id == 0: // no place was free
		p.plan = append(p.plan, p.look(), p.frees(), p.frees(), p.open(p.life))
	case !p.life.started:
		p.plan = append(p.plan, p.start(p.life))
	case p.source.Intn(3) > 0:
		p.act()
	default:
		p.end()
	}
}

// preparing tells another life that is preparing, if there is one.
func (p *player) preparing() *life {
	var all []*life
	for _, l := range p.lives {
		if l != p.life && l.started && !l.gone && p.record(l.id).State == api.TxPreparing {
			all = append(all, l)
		}
	}
	if len(all) == 0 {
		return nil
	}
	return all[p.source.Intn(len(all))]
}

func (p *player) act() {
	other, draw := p.preparing(), p.source.Intn(6)
	switch {
	case draw < 3 && other != nil:
		p.plan = append(p.plan, p.depend(p.life, other))
	case draw == 3 && other != nil:
		other.named = true
		p.plan = append(p.plan, p.draw(other))
	case draw == 4 && p.record(p.life.id).State == api.TxActive:
		p.plan = append(p.plan, p.moves(p.life, api.TxPreparing))
	case draw == 5:
		p.plan = append(p.plan, p.look(), p.frees())
	}
}

func (p *player) end() {
	l := p.life
	preparing := p.record(l.id).State == api.TxPreparing
	switch draw := p.source.Intn(5); {
	case draw == 0 && !preparing:
	case draw < 3:
		p.plan = append(p.plan, p.moves(l, api.TxAborted), p.close(l))
	case preparing:
		p.plan = append(p.plan, p.draw(l), p.moves(l, api.TxCommitted), p.close(l))
	default:
		p.plan = append(p.plan, p.moves(l, api.TxPreparing))
		return
	}
	p.plan = append(p.plan, func() *task {
		if !l.named && uint32(p.record(l.id).Word) == 0 && p.source.Intn(2) == 0 {
			return p.quit(l)()
		}
		return p.leave(l)()
	})
	p.life = nil
}

// chance lets players play as chance has it.
func chance(t *testing.T, seed int64) *story {
	source := rand.New(rand.NewSource(seed))
	s := newStory(t, 1+source.Intn(5), uint64(source.Intn(3)))
	for range 1 + source.Intn(5) {
		p := &player{story: s, source: source, left: 4}
		s.worker(p.next)
	}
	favourite := 0
	for {
		work := s.work()
		if len(work) == 0 {
			break
		}
		if source.Intn(6) == 0 {
			favourite = source.Intn(9)
		}
		if source.Intn(3) > 0 { // one that is stepped much, so that others fall behind
			s.step(work[favourite%len(work)])
			continue
		}
		s.step(work[source.Intn(len(work))])
	}
	s.alone(s.look())
	for s.Waiting() > 0 {
		n := s.Waiting()
		if s.alone(s.frees()); s.Waiting() == n {
			t.Fatalf("P6.12: nobody is at work, and the floor %d frees nothing of %v", s.floor, s.Inside().Waiting)
		}
	}
	want(t, "P6.7: at last nothing is in use", len(s.Live()), 0)
	return s
}

func TestManyOrdersOfManyWorkers(t *testing.T) {
	freed, aborts, given := 0, 0, 0
	for seed := range int64(1500) {
		s := chance(t, seed)
		if t.Failed() {
			t.Fatalf("seed %d", seed)
		}
		freed += s.freed
		aborts += s.aborts
		given += len(s.given)
	}
	if freed < 5000 || aborts < 300 || given < 15000 {
		t.Errorf("the runs were short: %d freed, %d aborts told, %d timestamps", freed, aborts, given)
	}
}

// The harness plays the machines as any others.
func TestMachinesByASchedule(t *testing.T) {
	source := rand.New(rand.NewSource(3))
	for range 300 {
		w := newWorld(t, 4, 10, 4)
		w.move(1, api.TxPreparing, api.TxAborted)
		draws := []*txtab.Draw{w.Draw(4), w.Draw(4), w.Draw(4)}
		depends := []*txtab.Depend{w.Depend(2, 1), w.Depend(3, 1)}
		closes := w.Close(1)
		h, e := sched.New[sched.Machine](3)
		want(t, "sched.New", e, api.OK)
		h.Submit(0, 0, draws[0], depends[0])
		h.Submit(1, 10, depends[1], draws[1])
		h.Submit(2, 20, draws[2], closes)
		text := make([]byte, source.Intn(40))
		for i := range text {
			text[i] = byte(source.Intn(3) + 32*source.Intn(5))
		}
		h.Play(1000, sched.Decode(string(text))...)
		h.Drain(1000)
		what := fmt.Sprintf("by the schedule %q", text)
		want(t, "P6.14: "+what, []any{draws[0].End(), draws[1].End()}, []any{draws[2].End(), draws[2].End()})
		toldTo := 0
		for i, d := range depends {
			open, aborted, _ := w.Waits(i + 2)
			switch d.Came() {
			case api.DepTaken:
				toldTo++
				want(t, "P6.17: "+what, []int{open, aborted}, []int{0, 1})
			case api.DepAborted:
				want(t, "P6.17: "+what, []int{open, aborted}, []int{0, 0})
			default:
				t.Errorf("P6.10: %s: it came to %d", what, d.Came())
			}
		}
		want(t, "P6.11: "+what, []any{closes.Told(), h.Idle(), w.Misses()}, []any{toldTo, true, 0})
	}
}

// shown is what a goroutine shows the others of its transaction, till it leaves.
type shown struct {
	id     int
	end    uint64
	aborts bool
}

// run runs a machine of a goroutine to its end.
func run[M machine](m M) M {
	for !m.Step() {
	}
	return m
}

// Clock and queues are locked, and records are atomic: workers that truly run at the same time keep the promises.
func TestMachinesOfGoroutines(t *testing.T) {
	const workers, lives = 6, 2000
	x, _ := txtab.New(workers+2, 0)
	var stage [workers]atomic.Pointer[shown]
	var lock sync.Mutex
	given := map[uint64]int{}
	give := func(stamp uint64) {
		lock.Lock()
		defer lock.Unlock()
		if given[stamp]++; given[stamp] > 1 || stamp == 0 {
			t.Errorf("P6.14: %d is given out twice", stamp)
		}
	}
	sweep := func() {
		f := run(x.Floor()).Floor()
		for ok := true; ok; {
			ok, _ = x.Free(f)
		}
	}
	live := func(worker, n int) {
		id, e := x.Open(api.TxInfo{Session: worker})
		for ; e != api.OK; id, e = x.Open(api.TxInfo{Session: worker}) {
			sweep()
			runtime.Gosched()
		}
		give(run(x.Start(id)).Begin())
		x.Move(id, api.TxPreparing)
		me := &shown{id: id, end: run(x.Draw(id)).End(), aborts: (worker+n)%3 == 0}
		give(me.end)
		stage[worker].Store(me)
		aborted := 0
		for i := range stage {
			other := stage[i].Load()
			if other == nil || other.end >= me.end { // so that none wait for each other
				continue
			}
			if end := run(x.Draw(other.id)).End(); end != other.end {
				t.Errorf("P6.14: a Draw tells %d, another %d", end, other.end)
			}
			if run(x.Depend(id, other.id)).Came() == api.DepTaken && other.aborts {
				aborted++
			}
		}
		open, told, _ := x.Waits(id)
		for ; open > 0; open, told, _ = x.Waits(id) {
			runtime.Gosched()
		}
		if told != aborted {
			t.Errorf("P6.17: %d aborted, want %d", told, aborted)
		}
		x.Move(id, map[bool]int{true: api.TxAborted, false: api.TxCommitted}[me.aborts])
		run(x.Close(id))
		stage[worker].Store(nil)
		run(x.Leave(id))
		x.Live()
		x.Look(id)
		x.Horizon()
	}
	var all sync.WaitGroup
	for worker := range workers {
		all.Go(func() {
			for n := range lives {
				live(worker, n)
			}
		})
	}
	all.Wait()
	sweep()
	want(t, "P6.16: misses, those that are in use, those that wait", []int{x.Misses(), len(x.Live()), x.Waiting()}, []int{0, 0, 0})
	want(t, "P6.14: timestamps", len(given), 2*workers*lives)
}

// Each timestamp is given out once, and each place is taken by one, whoever asks.
func TestCallsOfGoroutines(t *testing.T) {
	const workers, each = 8, 5000
	x, _ := txtab.New(workers, api.MaxTime-workers*each/2)
	ticks := make([][]uint64, workers)
	var all sync.WaitGroup
	for worker := range workers {
		all.Go(func() {
			for range each {
				n, _ := x.Tick()
				ticks[worker] = append(ticks[worker], n)
				id, e := x.Open(api.TxInfo{Session: worker})
				if info, _ := x.Info(id); e != api.OK || info.Session != worker {
					t.Errorf("P6.3: a place is taken twice: %d, %d", id, e)
				}
				x.Move(id, api.TxTerminated)
				x.Drop(id)
			}
		})
	}
	all.Wait()
	seen := map[uint64]int{}
	for _, list := range ticks {
		for _, n := range list {
			seen[n]++
		}
	}
	want(t, "P6.2: refused", seen[0], workers*each/2)
	want(t, "P6.2: given out", len(seen)-1, workers*each/2)
	want(t, "accesses, misses", []int{x.Accesses(), x.Misses()}, []int{4 * workers * each, 0})
}
