package version_test

import (
	"fmt"
	"slices"
	"sync"

	"strata/api"
	"strata/version"
)

// life is one transaction as the chapter has it: what it does, one machine at a time, and what it has done.
type life struct {
	base  *version.Base
	plan  []deed // what is still to be done
	tasks []task // what the present deed still comes to
	steps int    // of the present machine
	id    int
	at    uint64
	made  []int
	taken []int
	lost  []int // versions given up behind ErrDuplicate
	sees  []sighting
	fate  int // 0: it goes on
	end   uint64
	over  bool
	notes []string // errors of machines, and what it came to
}

// deed is one thing that a transaction does: "see", "bar" (a slot), "find", "insert", "take", "update" (a key), "commit" (that is "prepare" and "decide"), "abort", "rest".
type deed struct {
	kind string
	key  string
	slot int
}

// sighting is what a See said of a version, ahead of the transaction's own taking it.
type sighting struct {
	slot int
	seen bool
}

// task is a machine, made when its turn comes, and what is to be done when it is done.
type task struct {
	machine machine
	begin   func() machine
	then    func(e api.Errno)
}

func newLife(b *version.Base, plan ...deed) *life {
	l := &life{base: b, plan: plan}
	l.do(func() machine { return &call{do: l.open} }, l.must)
	l.do(func() machine { return b.Tx.Start(l.id) }, l.must)
	return l
}

// call is a machine of one step.
type call struct {
	do   func() api.Errno
	done bool
	code api.Errno
}

func (c *call) Step() bool {
	if !c.done {
		c.done, c.code = true, c.do()
	}
	return true
}

func (c *call) Code() api.Errno { return c.code }

func (l *life) do(begin func() machine, then func(api.Errno)) {
	l.tasks = append(l.tasks, task{begin: begin, then: then})
}

func (l *life) open() api.Errno {
	id, e := l.base.Tx.Open(api.TxInfo{})
	l.id = id
	return e
}

func (l *life) must(e api.Errno) {
	if e != api.OK {
		panic(fmt.Sprint("what can't go wrong: ", e))
	}
}

// step makes one step of the life's present machine; it tells which kind of machine that is.
func (l *life) step() (machine, bool) {
	t := &l.tasks[0]
	if t.machine == nil {
		t.machine = t.begin()
	}
	m, done := t.machine, t.machine.Step()
	if l.steps++; !done {
		return m, false
	}
	l.steps = 0
	if s, ok := m.(interface{ Begin() uint64 }); ok {
		l.at = s.Begin()
	}
	then := t.then
	l.tasks = l.tasks[1:]
	then(m.Code())
	for len(l.tasks) == 0 && !l.over {
		l.next()
	}
	return m, true
}

// next comes to the next deed.
func (l *life) next() {
	if len(l.plan) == 0 {
		l.over = true
		return
	}
	d := l.plan[0]
	l.plan = l.plan[1:]
	b := l.base
	switch d.kind {
	case "see":
		m := b.See(l.id, d.slot, l.at)
		l.do(func() machine { return m }, func(e api.Errno) { l.saw(d.slot, m.Seen(), e) })
	case "bar":
		m := b.Bar(l.id, d.slot, l.at)
		l.do(func() machine { return m }, l.orAbort)
	case "find":
		m := b.Find(l.id, d.key, l.at)
		l.do(func() machine { return m }, func(e api.Errno) {
			if l.orAbort(e); m.Slot() != 0 {
				l.saw(m.Slot(), true, e)
			}
		})
	case "insert":
		l.insert(d.key)
	case "take":
		l.take(d.key, func() {})
	case "update":
		l.take(d.key, func() { l.make(d.key, func(int) {}) })
	case "commit":
		l.prepare(l.wait)
	case "prepare":
		l.prepare(func() {})
	case "decide":
		l.wait()
	case "rest":
		l.do(func() machine {
			return &call{do: func() api.Errno {
				_, e := b.Tx.Clock()
				return e
			}}
		}, l.must)
	case "abort":
		l.abort("by will")
	}
}

// saw notes what a See said of another's version.
func (l *life) saw(slot int, seen bool, e api.Errno) {
	if l.orAbort(e); e == api.OK && !slices.Contains(l.made, slot) && !slices.Contains(l.taken, slot) && !slices.Contains(l.lost, slot) {
		l.sees = append(l.sees, sighting{slot, seen})
	}
}

// orAbort ends the transaction where a machine was done with an error.
func (l *life) orAbort(e api.Errno) {
	if e != api.OK {
		l.abort(fmt.Sprint(e))
	}
}

func (l *life) make(key string, then func(slot int)) {
	m := l.base.Make(l.id, key, "")
	l.do(func() machine { return m }, func(e api.Errno) {
		if m.Slot() != 0 {
			l.made = append(l.made, m.Slot())
		}
		if l.orAbort(e); e == api.OK {
			then(m.Slot())
		}
	})
}

func (l *life) insert(key string) {
	l.make(key, func(slot int) {
		m := l.base.Free(l.id, slot, l.at)
		l.do(func() machine { return m }, func(e api.Errno) {
			if e != api.ErrDuplicate {
				l.orAbort(e)
				return
			}
			if !slices.Contains(l.made, m.Slot()) {
				l.saw(m.Slot(), true, api.OK)
			}
			l.notes = append(l.notes, "duplicate")
			l.made = slices.DeleteFunc(slices.Clone(l.made), func(s int) bool { return s == slot })
			l.lost = append(l.lost, slot)
			l.do(func() machine {
				return &call{do: func() api.Errno { return l.base.Cells.Store(slot, api.CellBegin, api.Infinity) }}
			}, l.must)
		})
	})
}

func (l *life) take(key string, then func()) {
	m := l.base.Find(l.id, key, l.at)
	l.do(func() machine { return m }, func(e api.Errno) {
		if l.orAbort(e); e != api.OK || m.Slot() == 0 {
			return
		}
		slot := m.Slot()
		l.saw(slot, true, e)
		lock := l.base.Lock(l.id, slot)
		l.do(func() machine { return lock }, func(e api.Errno) {
			if l.orAbort(e); e == api.OK {
				l.taken = append(l.taken, slot)
				then()
			}
		})
	})
}

func (l *life) move(state int) {
	l.do(func() machine { return &call{do: func() api.Errno { return l.base.Tx.Move(l.id, state) }} }, l.must)
}

func (l *life) prepare(then func()) {
	l.move(api.TxPreparing)
	m := l.base.Tx.Draw(l.id)
	l.do(func() machine { return m }, func(e api.Errno) {
		if l.orAbort(e); e == api.OK {
			l.end = m.End()
			then()
		}
	})
}

// wait asks again and again for the fates that it hangs on.
func (l *life) wait() {
	open, aborted := 0, 0
	l.do(func() machine {
		return &call{do: func() api.Errno {
			var e api.Errno
			open, aborted, e = l.base.Tx.Waits(l.id)
			return e
		}}
	}, func(e api.Errno) {
		switch l.must(e); {
		case aborted > 0:
			l.abort("a cascade")
		case open > 0:
			l.wait()
		default:
			l.settle(api.TxCommitted, func() machine { return l.base.Commit(l.id, l.made, l.taken, l.end) })
		}
	})
}

func (l *life) abort(why string) {
	l.notes = append(l.notes, why)
	l.settle(api.TxAborted, func() machine { return l.base.Undo(l.id, l.made, l.taken) })
}

func (l *life) settle(fate int, fix func() machine) {
	l.fate, l.plan, l.tasks = fate, nil, nil
	l.move(fate)
	l.do(func() machine { return l.base.Tx.Close(l.id) }, l.must)
	l.do(fix, l.must)
	l.do(func() machine { return l.base.Tx.Leave(l.id) }, l.must)
}

// present tells the machine that is at work; nil: it is not begun.
func (l *life) present() machine {
	if len(l.tasks) == 0 {
		return nil
	}
	return l.tasks[0].machine
}

// story is many lives over one base.
type story struct {
	base   *version.Base
	lives  []*life
	loaded map[int]uint64 // versions that were there ahead of all, with their stamps
	lock   sync.Mutex
}

func newStory(c api.Config) *story {
	b, _ := version.New(c)
	return &story{base: b, loaded: map[int]uint64{}}
}

func (s *story) load(stamp uint64, key string) int {
	m := s.base.Load(stamp, key, "")
	for !m.Step() {
	}
	s.loaded[m.Slot()] = stamp
	return m.Slot()
}

// live begins a life.
func (s *story) live(plan ...deed) *life {
	l := newLife(s.base, plan...)
	s.lock.Lock()
	s.lives = append(s.lives, l)
	s.lock.Unlock()
	return l
}

// check holds the last words against P7.12, P7.13 and P7.14; it tells the first fault.
func (s *story) check() string {
	for _, slot := range s.base.Cells.Live() {
		if fault := s.checkVersion(slot); fault != "" {
			return fault
		}
	}
	for _, l := range s.lives {
		if l.fate != api.TxCommitted {
			continue
		}
		for _, x := range l.sees {
			if begin, end, _ := s.base.Words(x.slot); x.seen != (begin <= l.at && l.at < end) {
				return fmt.Sprintf("P7.13: one that commits said of %d at %d: seen %v; its last words are %d, %d", x.slot, l.at, x.seen, begin, end)
			}
		}
	}
	return s.checkKeys()
}

// checkVersion is P7.12.
func (s *story) checkVersion(slot int) string {
	begin, end, _ := s.base.Words(slot)
	first, last := uint64(api.Infinity), uint64(api.Infinity)
	if stamp, ok := s.loaded[slot]; ok {
		first = stamp
	}
	takers := 0
	for _, l := range s.lives {
		if l.fate != api.TxCommitted {
			continue
		}
		if slices.Contains(l.made, slot) {
			first = l.end
		}
		if slices.Contains(l.taken, slot) {
			last = l.end
			takers++
		}
	}
	if takers > 1 {
		return fmt.Sprintf("P7.12: %d have taken version %d and committed", takers, slot)
	}
	if begin != first || end != last {
		return fmt.Sprintf("P7.12: the last words of %d are %d, %d, want %d, %d", slot, begin, end, first, last)
	}
	return ""
}

// checkKeys is P7.14.
func (s *story) checkKeys() string {
	for one, a := range s.base.Cells.All() {
		for two, b := range s.base.Cells.All() {
			if one >= two || a.Name != b.Name {
				continue
			}
			from, to, _ := s.base.Words(one)
			begin, end, _ := s.base.Words(two)
			if max(from, begin) < min(to, end) {
				return fmt.Sprintf("P7.14: two versions of %q at one time: %d, %d and %d, %d", a.Name, from, to, begin, end)
			}
		}
	}
	return ""
}
