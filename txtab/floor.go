package txtab

import "strata/api"

// Floor is the machine that finds a timestamp at or below every begin of those that are at work, and of all to come (P6.12).
type Floor struct {
	course
	place int    // whose announced begin is read next
	floor uint64 // by what was read so far
}

// Floor begins one.
func (t *Table) Floor() *Floor {
	if t.missing() {
		return nil
	}
	m := &Floor{course: course{table: t}}
	m.next = m.readClock
	return m
}

// Step goes on by one access; true: done.
func (m *Floor) Step() bool { return m == nil || m.step() }

// Code tells the error of a done one.
func (m *Floor) Code() api.Errno {
	if m == nil {
		return api.ErrNil
	}
	return m.told()
}

// Floor tells what it found.
func (m *Floor) Floor() uint64 {
	if m == nil || !m.well() {
		return 0
	}
	return m.floor
}

// readClock comes ahead of all places: who announces behind it begins above it.
func (m *Floor) readClock() {
	clock, e := m.table.Clock()
	m.floor = clock + 1
	m.place = 1
	m.goOn(e, m.readPlace)
}

func (m *Floor) readPlace() {
	announced, e := m.table.Announced(m.place)
	m.floor = lower(m.floor, announced)
	m.place++
	if !m.table.has(m.place) {
		m.finish(e)
		return
	}
	m.goOn(e, m.readPlace)
}
