package version

import "strata/api"

// Find is the machine that looks for the version of a key that a transaction sees (P7.8).
type Find struct {
	tour
	see  *See
	slot int
}

// Find begins one.
func (b *Base) Find(id int, key string, at uint64) *Find {
	if b.missing() {
		return nil
	}
	m := &Find{tour: tour{course: course{base: b}, id: id, key: key, at: at}}
	m.next, m.meet = m.begin, m.look
	return m
}

// Step goes on by at most one access; true: done.
func (m *Find) Step() bool { return m == nil || m.step() }

// Code tells the error of a done one.
func (m *Find) Code() api.Errno {
	if m == nil {
		return api.ErrNil
	}
	return m.told()
}

// Slot tells the version's slot; 0: there is none.
func (m *Find) Slot() int {
	if m == nil {
		return 0
	}
	return m.slot
}

func (m *Find) begin() {
	if !m.base.knowsReader(m.id) {
		m.finish(api.ErrTx)
		return
	}
	m.set(m.base.Hash.Walk(m.base.Bucket(m.key)))
}

func (m *Find) look() {
	m.see = m.base.See(m.id, m.walk.Slot(), m.at)
	m.run(m.see, m.looked)
}

func (m *Find) looked() {
	if !m.see.Seen() {
		m.goOn()
		return
	}
	m.slot = m.walk.Slot()
	m.finish(api.OK)
}
