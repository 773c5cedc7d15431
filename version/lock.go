package version

import (
	"strata/api"
	"strata/bits"
)

// Lock is the machine that takes a version's end word for a transaction: the first one wins (P7.7).
type Lock struct {
	course
	id, slot int
	word     uint64 // its own
	found    uint64 // what the end word held when it was loaded last
}

// Lock begins one.
func (b *Base) Lock(id, slot int) *Lock {
	if b.missing() {
		return nil
	}
	m := &Lock{course: course{base: b}, id: id, slot: slot}
	m.next = m.begin
	return m
}

// Step goes on by at most one access; true: done.
func (m *Lock) Step() bool { return m == nil || m.step() }

// Code tells the error of a done one: api.ErrConflict, if another one has it.
func (m *Lock) Code() api.Errno {
	if m == nil {
		return api.ErrNil
	}
	return m.told()
}

func (m *Lock) begin() {
	word, e := m.base.ownWord(m.id)
	if e != api.OK {
		m.finish(e)
		return
	}
	m.word = word
	m.load()
}

func (m *Lock) load() {
	word, e := m.base.Cells.Load(m.slot, api.CellEnd)
	if e != api.OK {
		m.finish(e)
		return
	}
	m.found = word
	switch kind, _ := bits.Split(word); {
	case word == m.word:
		m.finish(api.OK)
	case kind == api.WInf:
		m.next = m.take
	case kind == api.WTime:
		m.finish(api.ErrConflict)
	case kind == api.WTxn:
		m.next = m.askHolder
	default:
		m.finish(api.ErrRange)
	}
}

// askHolder asks whether the one that has it has given it up. One that has terminated has written its last word there: what was loaded is old.
func (m *Lock) askHolder() {
	_, holder := bits.Split(m.found)
	state, e := m.base.Tx.State(int(holder))
	switch {
	case e != api.OK:
		m.finish(e)
	case state == api.TxAborted:
		m.next = m.take
	case state == api.TxTerminated:
		m.next = m.load
	default:
		m.finish(api.ErrConflict)
	}
}

func (m *Lock) take() {
	swapped, e := m.base.Cells.CAS(m.slot, api.CellEnd, m.found, m.word)
	if e != api.OK || swapped {
		m.finish(e)
		return
	}
	m.next = m.load
}
