package valid

import (
	"strata/api"
	"strata/version"
)

// inquiry is a machine of which it can be told whether it has anything to do.
type inquiry interface {
	machine
	idle() bool
}

// Check is the machine of what an isolation level asks for: Reads from RepeatableRead on, then Looks of Serializable (P9.5).
type Check struct {
	course
	left []inquiry // parts that are still to be run
}

// NewCheck begins one.
func NewCheck(b *version.Base, id, iso int, s *Sees, at uint64) *Check {
	if b == nil || s == nil {
		return nil
	}
	m := &Check{course: course{base: b}}
	reads, looks := NewReads(b, id, s, at), NewLooks(b, id, s, at)
	switch {
	case !isPlace(b, id):
		m.refuse(api.ErrTx)
	case iso == api.ReadCommitted, iso == api.Snapshot:
		m.follow()
	case iso == api.RepeatableRead:
		m.follow(reads)
	case iso == api.Serializable:
		m.follow(reads, looks)
	default:
		m.refuse(api.ErrArg)
	}
	return m
}

// Step goes on by at most one access; true: done.
func (m *Check) Step() bool { return m == nil || m.drive() }

// Code tells the error of a done one.
func (m *Check) Code() api.Errno {
	if m == nil {
		return api.ErrNil
	}
	return m.told()
}

// follow runs parts one behind the other.
func (m *Check) follow(parts ...inquiry) {
	m.left = parts
	m.next()
}

// next comes to the next part that has an access to make: one that has none costs no step.
func (m *Check) next() {
	for len(m.left) > 0 {
		part := m.left[0]
		if m.left = m.left[1:]; !part.idle() {
			m.run(part, m.next)
			return
		}
	}
	m.finish(api.OK)
}
