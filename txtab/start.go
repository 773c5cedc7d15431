package txtab

import "strata/api"

// Start is the machine that gives a record its begin timestamp: published first, then confirmed (P6.8).
type Start struct {
	course
	id    int
	begin uint64 // the bound that is published, then the timestamp itself
}

// Start begins one.
func (t *Table) Start(id int) *Start {
	if t.missing() {
		return nil
	}
	m := &Start{course: course{table: t}, id: id}
	m.next = m.readClock
	return m
}

// Step goes on by one access; true: done.
func (m *Start) Step() bool { return m == nil || m.step() }

// Code tells the error of a done one.
func (m *Start) Code() api.Errno {
	if m == nil {
		return api.ErrNil
	}
	return m.told()
}

// Begin tells the timestamp that it drew.
func (m *Start) Begin() uint64 {
	if m == nil || !m.well() {
		return 0
	}
	return m.begin
}

// readClock finds the bound: every begin that is still to be drawn is above the clock.
func (m *Start) readClock() {
	if !m.table.has(m.id) {
		m.finish(api.ErrTx)
		return
	}
	clock, e := m.table.Clock()
	m.begin = min(clock+1, api.MaxTime)
	m.goOn(e, m.publish)
}

func (m *Start) publish() { m.goOn(m.table.Announce(m.id, m.begin), m.tick) }

func (m *Start) tick() {
	begin, e := m.table.Tick()
	m.begin = begin
	m.goOn(e, m.confirm)
}

func (m *Start) confirm() { m.finish(m.table.Announce(m.id, m.begin)) }
