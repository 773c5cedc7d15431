package txtab

import "strata/api"

// Draw is the machine that sees to it that a preparing record has an end timestamp: its owner runs it, and whoever needs to know (P6.9).
type Draw struct {
	course
	id  int
	end uint64 // what was read or ticked last
}

// Draw begins one.
func (t *Table) Draw(id int) *Draw {
	if t.missing() {
		return nil
	}
	m := &Draw{course: course{table: t}, id: id}
	m.next = m.readFirst
	return m
}

// Step goes on by one access; true: done.
func (m *Draw) Step() bool { return m == nil || m.step() }

// Code tells the error of a done one.
func (m *Draw) Code() api.Errno {
	if m == nil {
		return api.ErrNil
	}
	return m.told()
}

// End tells the record's end timestamp.
func (m *Draw) End() uint64 {
	if m == nil || !m.well() {
		return 0
	}
	return m.end
}

func (m *Draw) readFirst() {
	if !m.table.has(m.id) {
		m.finish(api.ErrTx)
		return
	}
	end, e := m.table.End(m.id)
	m.end = end
	if end != 0 {
		m.finish(e)
		return
	}
	m.goOn(e, m.tick)
}

func (m *Draw) tick() {
	end, e := m.table.Tick()
	m.end = end
	m.goOn(e, m.put)
}

func (m *Draw) put() {
	swapped, e := m.table.swapEnd(m.id, m.end)
	if swapped {
		m.finish(e)
		return
	}
	m.goOn(e, m.readAgain)
}

// readAgain tells what another one has put: its own timestamp stays unused.
func (m *Draw) readAgain() {
	end, e := m.table.End(m.id)
	m.end = end
	m.finish(e)
}
