package sweep_test

import (
	"fmt"
	"slices"
	"sync"

	"strata/api"
	"strata/sweep"
	"strata/version"
)

// life is one worker: a transaction as chapter 7 has it, or one that sweeps and has no transaction of its own. It runs one machine at a time.
type life struct {
	story  *story
	name   string
	plan   []deed // what is still to be done
	tasks  []task // what the present deed still comes to
	steps  int    // of the present machine
	sweeps bool
	id     int // of its record; of one that sweeps: of the present Pass's
	at     uint64
	made   []int
	taken  []int
	lost   []int // versions given up behind ErrDuplicate
	wrote  int   // versions that were begun: each has data of its own
	floor  uint64
	fate   int // 0: it goes on
	end    uint64
	over   bool
	notes  []string // errors of machines, and what it came to
}

// deed is one thing that a worker does. Of a transaction: "find", "insert", "take", "update" (a key), "browse" (a bucket), "scan" (from a key on), "commit" (that is "prepare" and "decide"), "abort", "rest", "clean" (a bucket). Of one that sweeps: "pass" (a bucket), "floor", "reclaim" (so many at most).
type deed struct {
	kind string
	key  string
	n    int
	by   int // which sweeper
}

// task is a machine, made when its turn comes, and what is to be done when it is done.
type task struct {
	machine machine
	begin   func() machine
	then    func(e api.Errno)
}

// call is a machine of one step.
type call struct {
	do   func() api.Errno
	done bool
	code api.Errno
}

func (c *call) Step() bool {
	if !c.done {
		c.done, c.code = true, c.do()
	}
	return true
}

func (c *call) Code() api.Errno { return c.code }

// tour is a machine that goes along an index and runs a machine at each slot.
type tour struct {
	walk interface {
		machine
		Slot() int
		Ended() bool
	}
	look func(slot int) machine
	part machine
	pass []api.Errno // which errors of the parts are passed over
	code api.Errno
	done bool
}

func (m *tour) Step() bool {
	switch {
	case m.done:
	case m.part != nil:
		if m.part.Step() {
			if e := m.part.Code(); !slices.Contains(m.pass, e) {
				m.code = e
			}
			m.part = nil
			m.done = m.code != api.OK || m.walk.Ended()
		}
	case m.walk.Step():
		m.code = m.walk.Code()
		if m.walk.Slot() != 0 {
			m.part = m.look(m.walk.Slot())
		}
		m.done = m.code != api.OK || m.part == nil && m.walk.Ended()
	}
	return m.done
}

func (m *tour) Code() api.Errno { return m.code }

func (l *life) do(begin func() machine, then func(api.Errno)) {
	l.tasks = append(l.tasks, task{begin: begin, then: then})
}

func (l *life) doCall(do func() api.Errno, then func(api.Errno)) {
	l.do(func() machine { return &call{do: do} }, then)
}

func (l *life) begin() {
	b := l.story.base
	l.doCall(func() (e api.Errno) {
		l.id, e = b.Tx.Open(api.TxInfo{Session: 1, Iso: api.Snapshot})
		return e
	}, func(e api.Errno) {
		if e != api.OK {
			l.note(e)
			l.plan, l.over = nil, true
			return
		}
		start := b.Tx.Start(l.id)
		l.do(func() machine { return start }, func(e api.Errno) {
			l.must(e)
			l.at = start.Begin()
		})
	})
}

func (l *life) note(what any) { l.notes = append(l.notes, fmt.Sprint(what)) }

func (l *life) must(e api.Errno) {
	if e != api.OK {
		panic(fmt.Sprint("what can't go wrong: ", e))
	}
}

// step makes one step of the present machine; it tells which machine that is.
func (l *life) step() (machine, bool) {
	t := &l.tasks[0]
	if t.machine == nil {
		t.machine = t.begin()
	}
	m, done := t.machine, t.machine.Step()
	if l.steps++; !done {
		return m, false
	}
	l.steps = 0
	then := t.then
	l.tasks = l.tasks[1:]
	then(m.Code())
	for len(l.tasks) == 0 && !l.over {
		l.next()
	}
	return m, true
}

// next comes to the next deed.
func (l *life) next() {
	if len(l.plan) == 0 {
		l.over = true
		return
	}
	d := l.plan[0]
	l.plan = l.plan[1:]
	if l.sweeps {
		l.sweep(d)
	} else {
		l.transact(d)
	}
}

func (l *life) transact(d deed) {
	b := l.story.base
	see := func(slot int) machine { return b.See(l.id, slot, l.at) }
	switch d.kind {
	case "find":
		l.do(func() machine { return b.Find(l.id, d.key, l.at) }, l.orAbort)
	case "browse":
		l.do(func() machine { return &tour{walk: b.Hash.Walk(d.n), look: see} }, l.orAbort)
	case "scan":
		l.do(func() machine { return &tour{walk: b.Order.Walk(d.key), look: see} }, l.orAbort)
	case "insert":
		l.insert(d.key)
	case "take":
		l.take(d.key, func() {})
	case "update":
		l.take(d.key, func() { l.make(d.key, func(int) {}) })
	case "commit":
		l.prepare(l.wait)
	case "prepare":
		l.prepare(func() {})
	case "decide":
		l.wait()
	case "rest":
		l.doCall(func() api.Errno {
			_, e := b.Tx.Clock()
			return e
		}, l.must)
	case "clean":
		l.clean(d)
	case "abort":
		l.abort("by will")
	}
}

func (l *life) sweep(d deed) {
	s := l.story.sweepers[d.by]
	switch d.kind {
	case "pass":
		pass := s.Pass(d.n)
		l.do(func() machine { return pass }, func(e api.Errno) { l.note(fmt.Sprint("pass ", int(e), " ", pass.Unlinked())) })
	case "floor":
		l.findFloor(func() {})
	case "reclaim":
		l.do(func() machine { return s.Reclaim(l.floor, d.n) }, l.must)
	}
}

func (l *life) findFloor(then func()) {
	m := l.story.base.Tx.Floor()
	l.do(func() machine { return m }, func(e api.Errno) {
		l.must(e)
		l.floor = m.Floor()
		then()
	})
}

// clean takes garbage out within a transaction: a floor, each version of a bucket, then the limbo.
func (l *life) clean(d deed) {
	b, s := l.story.base, l.story.sweepers[d.by]
	l.findFloor(func() {
		l.do(func() machine {
			return &tour{walk: b.Hash.Walk(d.n), look: func(slot int) machine { return s.Collect(slot, l.floor) }, pass: []api.Errno{api.ErrNeeded, api.ErrClaimed}}
		}, l.must)
		l.do(func() machine { return s.Reclaim(l.floor, 2) }, l.must)
	})
}

// orAbort ends the transaction where a machine was done with an error.
func (l *life) orAbort(e api.Errno) {
	if e != api.OK {
		l.abort(fmt.Sprint(e))
	}
}

func (l *life) make(key string, then func(slot int)) {
	l.wrote++
	m := l.story.base.Make(l.id, key, fmt.Sprint(l.name, " ", l.wrote))
	l.do(func() machine { return m }, func(e api.Errno) {
		if m.Slot() != 0 {
			l.made = append(l.made, m.Slot())
		}
		if l.orAbort(e); e == api.OK {
			then(m.Slot())
		}
	})
}

func (l *life) insert(key string) {
	b := l.story.base
	l.make(key, func(slot int) {
		l.do(func() machine { return b.Free(l.id, slot, l.at) }, func(e api.Errno) {
			if e != api.ErrDuplicate {
				l.orAbort(e)
				return
			}
			l.note("duplicate")
			l.made = slices.DeleteFunc(slices.Clone(l.made), func(s int) bool { return s == slot })
			l.lost = append(l.lost, slot)
			l.doCall(func() api.Errno { return b.Cells.Store(slot, api.CellBegin, api.Infinity) }, l.must)
		})
	})
}

func (l *life) take(key string, then func()) {
	b := l.story.base
	m := b.Find(l.id, key, l.at)
	l.do(func() machine { return m }, func(e api.Errno) {
		if l.orAbort(e); e != api.OK || m.Slot() == 0 {
			return
		}
		slot := m.Slot()
		l.do(func() machine { return b.Lock(l.id, slot) }, func(e api.Errno) {
			if l.orAbort(e); e == api.OK {
				l.taken = append(l.taken, slot)
				then()
			}
		})
	})
}

func (l *life) move(state int) {
	l.doCall(func() api.Errno { return l.story.base.Tx.Move(l.id, state) }, l.must)
}

func (l *life) prepare(then func()) {
	l.move(api.TxPreparing)
	m := l.story.base.Tx.Draw(l.id)
	l.do(func() machine { return m }, func(e api.Errno) {
		if l.orAbort(e); e == api.OK {
			l.end = m.End()
			then()
		}
	})
}

// wait asks again and again for the fates that it hangs on.
func (l *life) wait() {
	open, aborted := 0, 0
	l.doCall(func() (e api.Errno) {
		open, aborted, e = l.story.base.Tx.Waits(l.id)
		return e
	}, func(e api.Errno) {
		switch l.must(e); {
		case aborted > 0:
			l.abort("a cascade")
		case open > 0:
			l.wait()
		default:
			l.settle(api.TxCommitted, func() machine { return l.story.base.Commit(l.id, l.made, l.taken, l.end) })
		}
	})
}

func (l *life) abort(why string) {
	l.note(why)
	l.settle(api.TxAborted, func() machine { return l.story.base.Undo(l.id, l.made, l.taken) })
}

// settle ends a transaction; one that has neither made nor taken a version, so that its number stands nowhere, quits.
func (l *life) settle(fate int, fix func() machine) {
	b := l.story.base
	l.fate, l.plan, l.tasks = fate, nil, nil
	l.move(fate)
	l.do(func() machine { return b.Tx.Close(l.id) }, l.must)
	l.do(fix, l.must)
	if fate == api.TxCommitted && len(l.made)+len(l.taken)+len(l.lost) == 0 {
		l.do(func() machine { return b.Tx.Quit(l.id) }, l.must)
	} else {
		l.do(func() machine { return b.Tx.Leave(l.id) }, l.must)
	}
}

// present tells the machine that is at work; nil: it is not begun.
func (l *life) present() machine {
	if len(l.tasks) == 0 {
		return nil
	}
	return l.tasks[0].machine
}

// idle tells whether a transaction stands between two machines, so that it may look for a key.
func (l *life) idle() bool {
	return !l.sweeps && !l.over && l.fate == 0 && l.at != 0 && l.end == 0 && l.steps == 0
}

// story is many workers over one base, and what must hold of them at every step.
type story struct {
	base     *version.Base
	sweepers []*sweep.Sweeper
	lives    []*life
	begins   map[*life]uint64  // of those whose begin is drawn and who have not left
	claims   map[[2]int]uint64 // versions that were claimed, by slot and turn, with the clock's time then
	highest  uint64            // the end of those claimed
	now      moment
	lock     sync.Mutex
}

func newStory(c api.Config, sweepers int) *story {
	b, _ := version.New(c)
	s := &story{base: b, begins: map[*life]uint64{}, claims: map[[2]int]uint64{}}
	for range sweepers {
		x, _ := sweep.New(b)
		s.sweepers = append(s.sweepers, x)
	}
	return s
}

// load brings a version in ahead of all; an end of 0: it has none.
func (s *story) load(begin, end uint64, key string) int {
	m := s.base.Load(begin, key, fmt.Sprint("loaded ", begin))
	for !m.Step() {
	}
	if end != 0 {
		s.base.Cells.Store(m.Slot(), api.CellEnd, end)
	}
	return m.Slot()
}

// live begins a transaction's life.
func (s *story) live(plan ...deed) *life {
	l := &life{story: s, plan: plan}
	s.add(l)
	l.begin()
	return l
}

// sweeping begins the life of one that sweeps.
func (s *story) sweeping(plan ...deed) *life {
	l := &life{story: s, plan: plan, sweeps: true}
	s.add(l)
	l.next()
	return l
}

func (s *story) add(l *life) {
	s.lock.Lock()
	defer s.lock.Unlock()
	s.lives = append(s.lives, l)
	l.name = fmt.Sprint("life ", len(s.lives))
}

// work tells the lives that go on.
func (s *story) work() []*life {
	return slices.DeleteFunc(slices.Clone(s.lives), func(l *life) bool { return l.over })
}

// accesses tells all there were.
func (s *story) accesses() int {
	n := s.base.Accesses()
	for _, x := range s.sweepers {
		n += x.Accesses()
	}
	return n
}

// sum adds up what the sweepers tell.
func (s *story) sum(of func(*sweep.Sweeper) int) int {
	n := 0
	for _, x := range s.sweepers {
		n += of(x)
	}
	return n
}
