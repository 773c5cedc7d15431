package valid

import (
	"strata/api"
	"strata/ladder"
	"strata/version"
)

// Looks is the machine that looks whether nothing new is seen at a timestamp in the ranges (P9.4).
type Looks struct {
	trial
	known versions // those that were read are nothing new
	left  []Range  // ranges that are still to be gone through
	area  Range    // the present one
	walk  *ladder.Walk[api.Entry]
}

// NewLooks begins one.
func NewLooks(b *version.Base, id int, s *Sees, at uint64) *Looks {
	if b == nil || s == nil {
		return nil
	}
	m := &Looks{known: versions{s.versions.copied()}, left: s.Ranges()}
	m.trial = trial{course: course{base: b}, id: id, at: at, cell: api.CellBegin, want: false, fault: api.ErrPhantom}
	m.goOn = m.stroll
	m.begin(m.nextRange)
	return m
}

// Step goes on by at most one access; true: done.
func (m *Looks) Step() bool { return m == nil || m.drive() }

// Code tells the error of a done one: api.ErrPhantom.
func (m *Looks) Code() api.Errno {
	if m == nil {
		return api.ErrNil
	}
	return m.told()
}

func (m *Looks) nextRange() {
	if len(m.left) == 0 {
		m.finish(api.OK)
		return
	}
	m.area, m.left = m.left[0], m.left[1:]
	m.walk = m.base.Order.Walk(m.area.Low)
	m.stroll()
}

// stroll leaves the next slot to the next step, unless none comes: a walk that is ended is not stepped on.
func (m *Looks) stroll() {
	if m.walk.Ended() {
		m.nextRange()
		return
	}
	m.run(m.walk, m.meet)
}

// meet looks at the version at which the walk stands, if it stands at one of the range: those behind it have keys that are no lower.
func (m *Looks) meet() {
	slot := m.walk.Slot()
	if slot == 0 {
		m.nextRange()
		return
	}
	entry, e := m.base.Cells.Payload(slot)
	switch {
	case e != api.OK:
		m.finish(e)
	case !m.area.holds(entry.Name):
		m.nextRange()
	case m.known.has(slot):
		m.stroll()
	default:
		m.judge(slot)
	}
}
