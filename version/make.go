package version

import (
	"strata/api"
	"strata/bits"
)

// Make is the machine that makes a version and links it into both indexes (P7.4).
type Make struct {
	course
	begin     func() (uint64, api.Errno) // tells the begin word
	key, data string
	slot      int
}

// Make begins one: a version of the transaction id, with no end.
func (b *Base) Make(id int, key, data string) *Make {
	return b.newMake(key, data, func() (uint64, api.Errno) { return b.ownWord(id) })
}

// Load is the machine that makes a version that has begun at a timestamp already (what a restart brings back).
func (b *Base) Load(stamp uint64, key, data string) *Make {
	return b.newMake(key, data, func() (uint64, api.Errno) { return bits.TimeWord(stamp) })
}

func (b *Base) newMake(key, data string, begin func() (uint64, api.Errno)) *Make {
	if b.missing() {
		return nil
	}
	m := &Make{course: course{base: b}, begin: begin, key: key, data: data}
	m.next = m.alloc
	return m
}

// Step goes on by at most one access; true: done.
func (m *Make) Step() bool { return m == nil || m.step() }

// Code tells the error of a done one.
func (m *Make) Code() api.Errno {
	if m == nil {
		return api.ErrNil
	}
	return m.told()
}

// Slot tells the version's slot, as soon as it has one: what has gone wrong behind that leaves it there.
func (m *Make) Slot() int {
	if m == nil {
		return 0
	}
	return m.slot
}

func (m *Make) alloc() {
	word, e := m.begin()
	if e == api.OK && !m.fits() {
		e = api.ErrKey
	}
	if e != api.OK {
		m.finish(e)
		return
	}
	var words [api.CellsWidth]uint64
	words[api.CellBegin], words[api.CellEnd] = word, api.Infinity
	entry := api.Entry{Name: m.key, Data: m.data, Tall: bits.Height(m.key, api.MaxLevels)}
	m.slot, e = m.base.Cells.Alloc(entry, words[:]...)
	if e != api.OK {
		m.finish(e)
		return
	}
	m.run(m.base.Hash.Insert(m.base.Bucket(m.key), m.slot), m.hashed)
}

func (m *Make) fits() bool {
	return m.key != "" && len(m.key) <= api.MaxKey && len(m.data) <= api.MaxData
}

func (m *Make) hashed() { m.run(m.base.Order.Insert(m.slot), m.ordered) }

func (m *Make) ordered() { m.finish(api.OK) }
