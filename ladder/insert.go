package ladder

import "strata/api"

// Insert is the machine that puts a slot in, level by level from below (P5.5).
type Insert[P api.Keyed] struct {
	search[P]
	rung int // the level at which it is being linked
}

// Insert begins one.
func (l *Ladder[P]) Insert(slot int) *Insert[P] {
	if l.missing() {
		return nil
	}
	m := &Insert[P]{}
	m.prepare(l, slot, m.begin)
	return m
}

// Step goes on by one access; true: done.
func (m *Insert[P]) Step() bool { return m == nil || m.step() }

// Code tells the error of a done one.
func (m *Insert[P]) Code() api.Errno {
	if m == nil {
		return api.ErrNil
	}
	return m.told()
}

// begin goes on to (I1) in the same step: looking at arguments costs none.
func (m *Insert[P]) begin(outcome) bool {
	if e := m.aim(); e != api.OK {
		return m.finish(e)
	}
	m.load(m.slot, 0, m.checked)
	return m.step()
}

// checked refuses a slot that was ever put in: its link would be lost, and with it what follows in its row.
func (m *Insert[P]) checked(got outcome) bool {
	if got.word != 0 {
		return m.finish(api.ErrTwice)
	}
	return m.seek(m.lay)
}

// lay is (I2).
func (m *Insert[P]) lay() bool { return m.store(m.slot, 0, linkOf(m.behind[0]), m.laid) }

// laid goes on to (I3).
func (m *Insert[P]) laid(outcome) bool { return m.join(m.joined) }

func (m *Insert[P]) joined(got outcome) bool {
	if !got.swapped {
		return m.seek(m.lay)
	}
	return m.climb()
}

// join leads the place ahead at the present level to the slot.
func (m *Insert[P]) join(then func(outcome) bool) bool {
	return m.swap(m.before[m.rung], m.rung, linkOf(m.behind[m.rung]), linkOf(m.slot), then)
}

func (m *Insert[P]) climb() bool {
	m.rung++
	if m.rung == m.height {
		return m.finish(api.OK)
	}
	return m.loadOwn()
}

// loadOwn is (I4).
func (m *Insert[P]) loadOwn() bool { return m.load(m.slot, m.rung, m.loadedOwn) }

// loadedOwn goes on to (I5), or to (I6) where the link is right already. A mark says that the slot is being taken out: nothing more is to be linked then.
func (m *Insert[P]) loadedOwn(got outcome) bool {
	if _, marked := take(got.word); marked {
		return m.finish(api.OK)
	}
	right := linkOf(m.behind[m.rung])
	if got.word == right {
		return m.join(m.climbed)
	}
	return m.swap(m.slot, m.rung, got.word, right, m.setOwn)
}

func (m *Insert[P]) setOwn(got outcome) bool {
	if !got.swapped {
		return m.loadOwn()
	}
	return m.join(m.climbed)
}

func (m *Insert[P]) climbed(got outcome) bool {
	if !got.swapped {
		return m.seek(m.soughtAgain)
	}
	return m.climb()
}

// soughtAgain gives up if the slot has been taken out meanwhile.
func (m *Insert[P]) soughtAgain() bool {
	if m.behind[0] != m.slot {
		return m.finish(api.OK)
	}
	return m.loadOwn()
}
