package txtab

import "strata/api"

// Depend is the machine that makes one transaction wait for another one's fate (P6.10).
type Depend struct {
	course
	id, on int
	place  int // for dependents of on: the one that it is at
	came   int
	lost   bool // on is not in use: that is the end, once the open ones of id have fallen again
}

// Depend begins one: id waits for on.
func (t *Table) Depend(id, on int) *Depend {
	if t.missing() {
		return nil
	}
	m := &Depend{course: course{table: t}, id: id, on: on}
	m.next = m.register
	return m
}

// Step goes on by one access; true: done.
func (m *Depend) Step() bool { return m == nil || m.step() }

// Code tells the error of a done one.
func (m *Depend) Code() api.Errno {
	if m == nil {
		return api.ErrNil
	}
	return m.told()
}

// Came tells what it came to: api.DepTaken and so on.
func (m *Depend) Came() int {
	if m == nil || !m.well() {
		return 0
	}
	return m.came
}

// register counts the dependency ahead of writing it down: whoever closes on may tell id of it at once.
func (m *Depend) register() {
	switch t := m.table; {
	case !t.has(m.id) || !t.has(m.on):
		m.finish(api.ErrTx)
	case m.id == m.on:
		m.finish(api.ErrArg)
	default:
		m.goOn(t.addWord(m.id, oneOpens), m.read)
	}
}

func (m *Depend) read() {
	holds, e := m.table.readPlace(m.on, m.place)
	switch {
	case e != api.OK:
		m.lose()
	case holds == empty:
		m.next = m.write
	case holds == closed:
		m.next = m.foundClosed
	case holds == uint64(m.id):
		m.came = api.DepTaken
		m.next = m.takeBack
	default:
		m.pass()
	}
}

// pass leaves a place that another one has taken.
func (m *Depend) pass() {
	m.place++
	if m.place < api.MaxDeps {
		m.next = m.read
		return
	}
	m.came = api.DepFull
	m.next = m.takeBack
}

func (m *Depend) write() {
	swapped, e := m.table.swapPlace(m.on, m.place, empty, uint64(m.id))
	switch {
	case e != api.OK:
		m.lose()
	case swapped:
		m.came = api.DepTaken
		m.finish(api.OK)
	default:
		m.next = m.read
	}
}

func (m *Depend) lose() {
	m.lost = true
	m.next = m.takeBack
}

// takeBack lets the open ones fall: nothing new is waited for.
func (m *Depend) takeBack() {
	e := m.table.addWord(m.id, oneCloses)
	if m.lost {
		e = api.ErrTx
	}
	m.finish(e)
}

// foundClosed takes back too, but then the fate is known, and is asked for.
func (m *Depend) foundClosed() { m.goOn(m.table.addWord(m.id, oneCloses), m.ask) }

func (m *Depend) ask() {
	state, e := m.table.State(m.on)
	m.came = fate(state)
	m.finish(e)
}

func fate(state int) int {
	switch state {
	case api.TxCommitted:
		return api.DepCommitted
	case api.TxAborted:
		return api.DepAborted
	case api.TxTerminated:
		return api.DepGone
	}
	return api.DepNone
}
