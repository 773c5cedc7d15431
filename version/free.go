package version

import "strata/api"

// Free is the machine that looks whether a new version may stand: no older version of its key is in the way (P7.9).
type Free struct {
	tour
	fresh int // the new version
	bar   *Bar
	slot  int
}

// Free begins one, of a version that is linked.
func (b *Base) Free(id, slot int, at uint64) *Free {
	if b.missing() {
		return nil
	}
	m := &Free{tour: tour{course: course{base: b}, id: id, at: at}, fresh: slot}
	m.next, m.meet = m.begin, m.look
	return m
}

// Step goes on by at most one access; true: done.
func (m *Free) Step() bool { return m == nil || m.step() }

// Code tells the error of a done one: api.ErrDuplicate, api.ErrConflict, api.ErrDeps.
func (m *Free) Code() api.Errno {
	if m == nil {
		return api.ErrNil
	}
	return m.told()
}

// Slot tells the version that is the duplicate; 0: none.
func (m *Free) Slot() int {
	if m == nil {
		return 0
	}
	return m.slot
}

// begin looks behind the new version alone: of two that are made at one time the later one stands ahead of the other, and meets it.
func (m *Free) begin() {
	if !m.base.knowsReader(m.id) {
		m.finish(api.ErrTx)
		return
	}
	entry, e := m.base.Cells.Payload(m.fresh)
	if e != api.OK {
		m.finish(e)
		return
	}
	m.key = entry.Name
	m.set(m.base.Hash.Behind(m.fresh))
}

func (m *Free) look() {
	m.bar = m.base.Bar(m.id, m.walk.Slot(), m.at)
	m.run(m.bar, m.looked)
}

func (m *Free) looked() {
	switch m.bar.Bar() {
	case api.BarSeen:
		m.slot = m.walk.Slot()
		m.finish(api.ErrDuplicate)
	case api.BarBusy:
		m.finish(api.ErrConflict)
	default:
		m.goOn()
	}
}
