package txtab

import "strata/api"

// ending is how Leave and Quit begin: the state first, then the announcement is taken back (P6.13).
type ending struct {
	course
	id   int
	last func() // what comes behind these two
}

func (m *ending) prepare(t *Table, id int, last func()) {
	m.table, m.id, m.last = t, id, last
	m.next = m.terminate
}

func (m *ending) terminate() {
	if !m.table.has(m.id) {
		m.finish(api.ErrTx)
		return
	}
	m.goOn(m.table.Move(m.id, api.TxTerminated), m.takeBack)
}

func (m *ending) takeBack() { m.goOn(m.table.Announce(m.id, 0), m.last) }

// Leave is the machine by which a transaction whose work is done terminates: state, announcement, stamp, retirement (P6.13).
type Leave struct {
	ending
	stamp uint64
}

// Leave begins one.
func (t *Table) Leave(id int) *Leave {
	if t.missing() {
		return nil
	}
	m := &Leave{}
	m.prepare(t, id, m.readClock)
	return m
}

// Step goes on by one access; true: done.
func (m *Leave) Step() bool { return m == nil || m.step() }

// Code tells the error of a done one.
func (m *Leave) Code() api.Errno {
	if m == nil {
		return api.ErrNil
	}
	return m.told()
}

// readClock comes behind the announcement's end: whoever may still hold the number has drawn a begin by now.
func (m *Leave) readClock() {
	stamp, e := m.table.Clock()
	m.stamp = stamp
	m.goOn(e, m.retire)
}

func (m *Leave) retire() { m.finish(m.table.Retire(m.id, m.stamp)) }

// Quit is the machine by which a transaction whose number nobody can hold terminates: state, announcement, freed at once (P6.13).
type Quit struct{ ending }

// Quit begins one.
func (t *Table) Quit(id int) *Quit {
	if t.missing() {
		return nil
	}
	m := &Quit{}
	m.prepare(t, id, m.drop)
	return m
}

// Step goes on by one access; true: done.
func (m *Quit) Step() bool { return m == nil || m.step() }

// Code tells the error of a done one.
func (m *Quit) Code() api.Errno {
	if m == nil {
		return api.ErrNil
	}
	return m.told()
}

func (m *Quit) drop() { m.finish(m.table.Drop(m.id)) }
