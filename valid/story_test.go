package valid_test

import (
	"fmt"
	"slices"
	"sync"

	"strata/api"
	"strata/ladder"
	"strata/valid"
	"strata/version"
)

// life is one transaction as the chapter has it: what it does, one machine at a time, and what it has done.
type life struct {
	base  *version.Base
	iso   int
	plan  []deed // what is still to be done
	tasks []task // what the present deed still comes to
	steps int    // of the present machine
	id    int
	at    uint64
	made  []int
	taken []int
	set   *valid.Sees
	fate  int // 0: it goes on
	end   uint64
	over  bool
	notes []string // errors of machines, and what it came to
}

// deed is one thing that a transaction does: "see" (a slot), "find", "insert", "take", "update" (a key), "scan", "look" (a range: "look" notes it and looks at nothing), "commit" (that is "prepare", "check" and "decide"), "abort", "rest".
type deed struct {
	kind string
	key  string
	high string
	slot int
}

// task is a machine, made when its turn comes, and what is to be done when it is done.
type task struct {
	machine machine
	begin   func() machine
	call    func() api.Errno // of one that is a single call
	then    func(e api.Errno)
}

// call is a machine of one step.
type call struct {
	do   func() api.Errno
	done bool
	code api.Errno
}

func (c *call) Step() bool {
	if !c.done {
		c.done, c.code = true, c.do()
	}
	return true
}

func (c *call) Code() api.Errno { return c.code }

// scan is the machine that looks at each version of a range.
type scan struct {
	l    *life
	r    valid.Range
	walk *ladder.Walk[api.Entry]
	part *version.See
	seen []int
	code api.Errno
	done bool
}

func (m *scan) Step() bool {
	switch {
	case m.done:
	case m.part != nil:
		if m.part.Step() {
			if m.code = m.part.Code(); m.part.Seen() {
				m.seen = append(m.seen, m.walk.Slot())
			}
			m.part = nil
			m.done = m.code != api.OK || m.walk.Ended()
		}
	case m.walk.Step():
		m.arrive()
	}
	return m.done
}

func (m *scan) arrive() {
	slot := m.walk.Slot()
	if m.code = m.walk.Code(); m.code != api.OK || slot == 0 {
		m.done = true
		return
	}
	entry, _ := m.l.base.Cells.Payload(slot)
	if m.r.High != "" && entry.Name >= m.r.High {
		m.done = true
		return
	}
	m.part = m.l.base.See(m.l.id, slot, m.l.at)
}

func (m *scan) Code() api.Errno { return m.code }

func newLife(b *version.Base, iso int, plan ...deed) *life {
	l := &life{base: b, iso: iso, plan: plan, set: valid.NewSees()}
	l.doCall(func() (e api.Errno) {
		l.id, e = b.Tx.Open(api.TxInfo{Session: 1, Iso: iso})
		return e
	}, l.must)
	l.do(func() machine { return b.Tx.Start(l.id) }, l.must)
	return l
}

func (l *life) do(begin func() machine, then func(api.Errno)) {
	l.tasks = append(l.tasks, task{begin: begin, then: then})
}

func (l *life) doCall(do func() api.Errno, then func(api.Errno)) {
	l.tasks = append(l.tasks, task{begin: func() machine { return &call{do: do} }, call: do, then: then})
}

func (l *life) must(e api.Errno) {
	if e != api.OK {
		panic(fmt.Sprint("what can't go wrong: ", e))
	}
}

func (l *life) note(what any) { l.notes = append(l.notes, fmt.Sprint(what)) }

// step makes one step of the life's present machine; it tells which machine that is.
func (l *life) step() (machine, bool) {
	t := &l.tasks[0]
	if t.machine == nil {
		t.machine = t.begin()
	}
	m, done := t.machine, t.machine.Step()
	if l.steps++; !done {
		return m, false
	}
	l.steps = 0
	if s, ok := m.(interface{ Begin() uint64 }); ok {
		l.at = s.Begin()
	}
	then := t.then
	l.tasks = l.tasks[1:]
	then(m.Code())
	for len(l.tasks) == 0 && !l.over {
		l.next()
	}
	return m, true
}

// next comes to the next deed.
func (l *life) next() {
	if len(l.plan) == 0 {
		l.over = true
		return
	}
	d := l.plan[0]
	l.plan = l.plan[1:]
	b := l.base
	switch d.kind {
	case "see":
		m := b.See(l.id, d.slot, l.at)
		l.do(func() machine { return m }, func(e api.Errno) {
			if l.orAbort(e); m.Seen() {
				l.saw(d.slot)
			}
		})
	case "find":
		l.find(d.key, func(int) {})
	case "insert":
		l.insert(d.key)
	case "take":
		l.take(d.key, func() {})
	case "update":
		l.take(d.key, func() { l.make(d.key, func(int) {}) })
	case "scan":
		l.scan(valid.Range{Low: d.key, High: d.high})
	case "look":
		l.must(l.set.Look(d.key, d.high))
	default:
		l.endBy(d)
	}
}

// endBy comes to those of the last deeds.
func (l *life) endBy(d deed) {
	switch d.kind {
	case "commit":
		l.prepare(func() { l.check(l.wait) })
	case "prepare":
		l.prepare(func() {})
	case "check":
		l.check(func() {})
	case "decide":
		l.wait()
	case "rest":
		l.doCall(func() api.Errno {
			_, e := l.base.Tx.Clock()
			return e
		}, l.must)
	case "abort":
		l.abort("by will")
	}
}

// saw notes another's version that was seen.
func (l *life) saw(slot int) {
	if !slices.Contains(l.made, slot) {
		l.must(l.set.Read(slot))
	}
}

// orAbort ends the transaction where a machine was done with an error.
func (l *life) orAbort(e api.Errno) {
	if e != api.OK {
		l.abort(fmt.Sprint(int(e)))
	}
}

func (l *life) find(key string, then func(slot int)) {
	m := l.base.Find(l.id, key, l.at)
	l.do(func() machine { return m }, func(e api.Errno) {
		if l.orAbort(e); m.Slot() != 0 {
			l.saw(m.Slot())
			then(m.Slot())
		}
	})
}

func (l *life) scan(r valid.Range) {
	m := &scan{l: l, r: r, walk: l.base.Order.Walk(r.Low)}
	l.do(func() machine { return m }, func(e api.Errno) {
		l.orAbort(e)
		for _, slot := range m.seen {
			l.saw(slot)
		}
		l.must(l.set.Look(r.Low, r.High))
	})
}

func (l *life) make(key string, then func(slot int)) {
	m := l.base.Make(l.id, key, "")
	l.do(func() machine { return m }, func(e api.Errno) {
		if m.Slot() != 0 {
			l.made = append(l.made, m.Slot())
		}
		if l.orAbort(e); e == api.OK {
			then(m.Slot())
		}
	})
}

func (l *life) insert(key string) {
	l.make(key, func(slot int) {
		m := l.base.Free(l.id, slot, l.at)
		l.do(func() machine { return m }, func(e api.Errno) {
			if e != api.ErrDuplicate {
				l.orAbort(e)
				return
			}
			l.saw(m.Slot())
			l.note("duplicate")
			l.made = slices.DeleteFunc(slices.Clone(l.made), func(s int) bool { return s == slot })
			l.doCall(func() api.Errno { return l.base.Cells.Store(slot, api.CellBegin, api.Infinity) }, l.must)
		})
	})
}

func (l *life) take(key string, then func()) {
	l.find(key, func(slot int) {
		lock := l.base.Lock(l.id, slot)
		l.do(func() machine { return lock }, func(e api.Errno) {
			if l.orAbort(e); e == api.OK {
				l.taken = append(l.taken, slot)
				then()
			}
		})
	})
}

func (l *life) move(state int) {
	l.doCall(func() api.Errno { return l.base.Tx.Move(l.id, state) }, l.must)
}

func (l *life) prepare(then func()) {
	l.move(api.TxPreparing)
	m := l.base.Tx.Draw(l.id)
	l.do(func() machine { return m }, func(e api.Errno) {
		if l.orAbort(e); e == api.OK {
			l.end = m.End()
			then()
		}
	})
}

func (l *life) check(then func()) {
	m := valid.NewCheck(l.base, l.id, l.iso, l.set, l.end)
	l.do(func() machine { return m }, func(e api.Errno) {
		if l.orAbort(e); e == api.OK {
			then()
		}
	})
}

// wait asks again and again for the fates that it hangs on.
func (l *life) wait() {
	open, aborted := 0, 0
	l.doCall(func() (e api.Errno) {
		open, aborted, e = l.base.Tx.Waits(l.id)
		return e
	}, func(e api.Errno) {
		switch l.must(e); {
		case aborted > 0:
			l.abort("a cascade")
		case open > 0:
			l.wait()
		default:
			l.settle(api.TxCommitted, func() machine { return l.base.Commit(l.id, l.made, l.taken, l.end) })
		}
	})
}

func (l *life) abort(why string) {
	l.note(why)
	l.settle(api.TxAborted, func() machine { return l.base.Undo(l.id, l.made, l.taken) })
}

func (l *life) settle(fate int, fix func() machine) {
	l.fate, l.plan, l.tasks = fate, nil, nil
	l.move(fate)
	l.do(func() machine { return l.base.Tx.Close(l.id) }, l.must)
	l.do(fix, l.must)
	l.do(func() machine { return l.base.Tx.Leave(l.id) }, l.must)
}

// present tells the machine that is at work; nil: it is not begun.
func (l *life) present() machine {
	if len(l.tasks) == 0 {
		return nil
	}
	return l.tasks[0].machine
}

// story is many lives over one base.
type story struct {
	base  *version.Base
	lives []*life
	lock  sync.Mutex
}

func newStory(c api.Config) *story {
	b, _ := version.New(c)
	return &story{base: b}
}

func (s *story) load(stamp uint64, key string) {
	for m := s.base.Load(stamp, key, ""); !m.Step(); {
	}
}

// live begins a life.
func (s *story) live(iso int, plan ...deed) *life {
	l := newLife(s.base, iso, plan...)
	s.lock.Lock()
	s.lives = append(s.lives, l)
	s.lock.Unlock()
	return l
}

// committed tells the lives that have committed with a level or above.
func (s *story) committed(iso int) []*life {
	return slices.DeleteFunc(slices.Clone(s.lives), func(l *life) bool { return l.fate != api.TxCommitted || l.iso < iso })
}

// judge holds the last words against P9.7, P9.8 and P9.9; it tells the first fault.
func (s *story) judge() string {
	for _, l := range s.committed(api.RepeatableRead) {
		if fault := s.repeatable(l); fault != "" {
			return fault
		}
	}
	all := s.committed(api.Serializable)
	for _, l := range all {
		if fault := s.noPhantom(l); fault != "" {
			return fault
		}
		for _, other := range all {
			if l != other && s.readBehind(l, other) && s.readBehind(other, l) {
				return fmt.Sprintf("P9.9: two that commit at %d and %d each read what the other one wrote", l.end, other.end)
			}
		}
	}
	return ""
}

// repeatable is P9.7.
func (s *story) repeatable(l *life) string {
	for _, slot := range l.set.Slots() {
		begin, end, _ := s.base.Words(slot)
		its := slices.Contains(l.taken, slot)
		if begin >= l.end || its && end != l.end || !its && end <= l.end {
			return fmt.Sprintf("P9.7: one that commits at %d with level %d has read %d, whose last words are %d, %d (taken by itself: %v)", l.end, l.iso, slot, begin, end, its)
		}
	}
	return ""
}

// noPhantom is P9.8.
func (s *story) noPhantom(l *life) string {
	for slot, entry := range s.base.Cells.All() {
		begin, end, _ := s.base.Words(slot)
		if begin < l.end && end >= l.end && l.hasLookedFor(entry.Name) && !l.set.Has(slot) && !slices.Contains(l.made, slot) {
			return fmt.Sprintf("P9.8: one that commits at %d has looked through %q and has not read %d of %q, whose last words are %d, %d", l.end, l.set.Ranges(), slot, entry.Name, begin, end)
		}
	}
	return ""
}

func (l *life) hasLookedFor(key string) bool {
	return slices.ContainsFunc(l.set.Ranges(), func(r valid.Range) bool { return key >= r.Low && (r.High == "" || key < r.High) })
}

// readBehind tells whether one has read, or looked for, what the other one wrote, and has not seen the other's writing. (What the other one put where was looked counts if it is still there when both have ended.)
func (s *story) readBehind(l, other *life) bool {
	for _, slot := range other.taken {
		if l.set.Has(slot) {
			return true
		}
	}
	for _, slot := range other.made {
		entry, _ := s.base.Cells.Payload(slot)
		_, end, _ := s.base.Words(slot)
		if l.hasLookedFor(entry.Name) && !l.set.Has(slot) && end > max(l.end, other.end) {
			return true
		}
	}
	return false
}
