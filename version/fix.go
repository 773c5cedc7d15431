package version

import (
	"strata/api"
	"strata/bits"
)

// Fix is the machine that gives versions their last words behind a commit or an abort (P7.10).
type Fix struct {
	course
	id          int
	fault       api.Errno // of the stamp
	begin       uint64    // the word of those made
	let         func(slot int) api.Errno
	made, taken []int // those that are left
}

// Commit begins one: the versions made begin, and those taken end, at the timestamp.
func (b *Base) Commit(id int, made, taken []int, stamp uint64) *Fix {
	m := b.newFix(id, made, taken)
	if m != nil {
		m.begin, m.fault = bits.TimeWord(stamp)
		m.let = m.endTaken
	}
	return m
}

// Undo begins one: the versions made never begin; those taken are let go.
func (b *Base) Undo(id int, made, taken []int) *Fix {
	m := b.newFix(id, made, taken)
	if m != nil {
		m.begin = api.Infinity
		m.let = m.releaseTaken
	}
	return m
}

func (b *Base) newFix(id int, made, taken []int) *Fix {
	if b.missing() {
		return nil
	}
	m := &Fix{course: course{base: b}, id: id, made: make([]int, len(made)), taken: make([]int, len(taken))}
	copy(m.made, made)
	copy(m.taken, taken)
	m.next = m.look
	return m
}

// Step goes on by at most one access; true: done.
func (m *Fix) Step() bool { return m == nil || m.step() }

// Code tells the error of a done one.
func (m *Fix) Code() api.Errno {
	if m == nil {
		return api.ErrNil
	}
	return m.told()
}

func (m *Fix) look() {
	switch {
	case !m.base.knows(m.id):
		m.finish(api.ErrTx)
	case m.fault != api.OK:
		m.finish(m.fault)
	default:
		m.settle()
	}
}

// settle gives the next version its word, those made ahead of those taken.
func (m *Fix) settle() {
	e := api.OK
	switch {
	case len(m.made) > 0:
		e = m.base.Cells.Store(m.made[0], api.CellBegin, m.begin)
		m.made = m.made[1:]
	case len(m.taken) > 0:
		e = m.let(m.taken[0])
		m.taken = m.taken[1:]
	}
	if e != api.OK || len(m.made)+len(m.taken) == 0 {
		m.finish(e)
		return
	}
	m.next = m.settle
}

func (m *Fix) endTaken(slot int) api.Errno {
	return m.base.Cells.Store(slot, api.CellEnd, m.begin)
}

// releaseTaken leaves alone what another one has taken meanwhile: an aborted one's lock may be broken.
func (m *Fix) releaseTaken(slot int) api.Errno {
	word, e := m.base.ownWord(m.id)
	if e != api.OK {
		return e
	}
	_, e = m.base.Cells.CAS(slot, api.CellEnd, word, api.Infinity)
	return e
}
