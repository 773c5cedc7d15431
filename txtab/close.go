package txtab

import "strata/api"

// Close is the machine by which a transaction whose fate is decided closes its set of dependents and tells each (P6.11).
type Close struct {
	course
	id    int
	news  uint64 // what is added to the word of each dependent
	place int    // for dependents: the one that it is at
	holds uint64 // as it was read last
	count int    // of the words that were added to
}

// Close begins one.
func (t *Table) Close(id int) *Close {
	if t.missing() {
		return nil
	}
	m := &Close{course: course{table: t}, id: id}
	m.next = m.begin
	return m
}

// Step goes on by one access; true: done.
func (m *Close) Step() bool { return m == nil || m.step() }

// Code tells the error of a done one.
func (m *Close) Code() api.Errno {
	if m == nil {
		return api.ErrNil
	}
	return m.told()
}

// Told tells how many it told.
func (m *Close) Told() int {
	if m == nil || !m.well() {
		return 0
	}
	return m.count
}

func (m *Close) begin() {
	if !m.table.has(m.id) {
		m.finish(api.ErrTx)
		return
	}
	state, e := m.table.State(m.id)
	switch {
	case e != api.OK:
		m.finish(e)
	case state == api.TxCommitted:
		m.news = oneCloses
		m.next = m.read
	case state == api.TxAborted:
		m.news = oneAborted
		m.next = m.read
	default:
		m.finish(api.ErrState)
	}
}

func (m *Close) read() {
	holds, e := m.table.readPlace(m.id, m.place)
	m.holds = holds
	if holds == closed {
		m.pass()
		return
	}
	m.goOn(e, m.shut)
}

func (m *Close) shut() {
	swapped, e := m.table.swapPlace(m.id, m.place, m.holds, closed)
	switch {
	case e != api.OK:
		m.finish(e)
	case !swapped:
		m.next = m.read
	case m.holds == empty:
		m.pass()
	default:
		m.next = m.tell
	}
}

// tell passes over a dependent that is there no more.
func (m *Close) tell() {
	if m.table.addWord(int(m.holds), m.news) == api.OK {
		m.count++
	}
	m.pass()
}

func (m *Close) pass() {
	m.place++
	if m.place < api.MaxDeps {
		m.next = m.read
		return
	}
	m.finish(api.OK)
}
