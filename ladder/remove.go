package ladder

import "strata/api"

// Remove is the machine that marks a slot at all its levels, from above, and unlinks it (P5.5).
type Remove[P api.Keyed] struct {
	search[P]
	rung int // the level at which it is being marked
}

// Remove begins one.
func (l *Ladder[P]) Remove(slot int) *Remove[P] {
	if l.missing() {
		return nil
	}
	m := &Remove[P]{}
	m.prepare(l, slot, m.begin)
	return m
}

// Step goes on by one access; true: done.
func (m *Remove[P]) Step() bool { return m == nil || m.step() }

// Code tells the error of a done one.
func (m *Remove[P]) Code() api.Errno {
	if m == nil {
		return api.ErrNil
	}
	return m.told()
}

// begin goes on to (R1) in the same step: looking at arguments costs none.
func (m *Remove[P]) begin(outcome) bool {
	if e := m.aim(); e != api.OK {
		return m.finish(e)
	}
	m.load(m.slot, 0, m.checked)
	return m.step()
}

func (m *Remove[P]) checked(got outcome) bool {
	if _, marked := take(got.word); marked || got.word == 0 {
		return m.finish(api.ErrAbsent)
	}
	m.rung = m.height - 1
	return m.loadOwn()
}

// loadOwn is (R2).
func (m *Remove[P]) loadOwn() bool { return m.load(m.slot, m.rung, m.loadedOwn) }

// loadedOwn goes on to (R3), or past a level that another one has marked. Who marks the lowest level has taken the slot out.
func (m *Remove[P]) loadedOwn(got outcome) bool {
	_, marked := take(got.word)
	switch {
	case !marked:
		return m.swap(m.slot, m.rung, got.word, withMark(got.word), m.markedOwn)
	case m.rung == 0:
		return m.finish(api.ErrAbsent)
	}
	m.rung--
	return m.loadOwn()
}

func (m *Remove[P]) markedOwn(got outcome) bool {
	if !got.swapped {
		return m.loadOwn()
	}
	if m.rung == 0 {
		return m.seek(m.out)
	}
	m.rung--
	return m.loadOwn()
}

// out is done: the search has come by the slot at each level, and has unlinked it there.
func (m *Remove[P]) out() bool { return m.finish(api.OK) }
