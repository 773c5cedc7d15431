package valid

import (
	"strata/api"
	"strata/version"
)

// Reads is the machine that looks whether each version that was read is still seen at a timestamp (P9.3).
type Reads struct {
	trial
	left []int // versions that are still to be looked at
}

// NewReads begins one.
func NewReads(b *version.Base, id int, s *Sees, at uint64) *Reads {
	if b == nil || s == nil {
		return nil
	}
	m := &Reads{left: s.Slots()}
	m.trial = trial{course: course{base: b}, id: id, at: at, cell: api.CellEnd, want: true, fault: api.ErrRead}
	m.goOn = m.next
	m.begin(m.next)
	return m
}

// Step goes on by at most one access; true: done.
func (m *Reads) Step() bool { return m == nil || m.drive() }

// Code tells the error of a done one: api.ErrRead.
func (m *Reads) Code() api.Errno {
	if m == nil {
		return api.ErrNil
	}
	return m.told()
}

func (m *Reads) next() {
	if len(m.left) == 0 {
		m.finish(api.OK)
		return
	}
	slot := m.left[0]
	m.left = m.left[1:]
	m.judge(slot)
}
