package chain

import "strata/api"

// Walk is the machine that goes along a bucket (P4.6).
type Walk[P any] struct {
	index   *Index[P]
	next    func() bool
	source  int // the bucket of Walk, the slot of Behind
	own     int // the number of the only end that is no stray one; 0: every end is right
	slot    int // where it stands
	pending int // the slot that comes next
	ended   bool
	code    api.Errno
}

// Walk begins ahead of a bucket's first slot.
func (x *Index[P]) Walk(bucket int) *Walk[P] {
	if x == nil {
		return nil
	}
	m := &Walk[P]{index: x, source: bucket}
	m.next = m.loadHead
	return m
}

// Behind begins behind a slot.
func (x *Index[P]) Behind(slot int) *Walk[P] {
	if x == nil {
		return nil
	}
	m := &Walk[P]{index: x, source: slot}
	m.next = m.loadSource
	return m
}

// Step goes on by one access and stands at the next slot, or at the end; true: it has arrived.
func (m *Walk[P]) Step() bool { return m == nil || m.next() }

// Slot tells where it stands; 0: nowhere, or the end.
func (m *Walk[P]) Slot() int {
	if m == nil {
		return 0
	}
	return m.slot
}

// Ended tells whether no further slot comes.
func (m *Walk[P]) Ended() bool { return m == nil || m.ended }

// Code tells its error.
func (m *Walk[P]) Code() api.Errno {
	if m == nil {
		return api.ErrNil
	}
	return m.code
}

func (m *Walk[P]) loadHead() bool {
	if !m.index.has(m.source) {
		return m.fail(api.ErrBucket)
	}
	m.own = endOf(m.source)
	number, _ := take(m.index.loadHead(m.source))
	return m.look(number)
}

func (m *Walk[P]) loadSource() bool {
	w, e := m.index.loadLink(m.source)
	if e != api.OK {
		return m.fail(e)
	}
	number, _ := take(w)
	return m.look(number)
}

// loadPending stands at the pending slot, unless it is marked: then it is as good as gone.
func (m *Walk[P]) loadPending() bool {
	w, e := m.index.loadLink(m.pending)
	if e != api.OK {
		return m.fail(e)
	}
	number, marked := take(w)
	m.slot = m.pending
	if marked {
		m.slot = 0
	}
	return m.look(number)
}

// look tells from the number just loaded whether the walk goes on; it is the answer of the step.
func (m *Walk[P]) look(number int) bool {
	switch {
	case number == 0:
		return m.fail(api.ErrUnlinked)
	case isEnd(number) && m.own != 0 && number != m.own:
		return m.end(api.ErrStray)
	case isEnd(number):
		return m.end(api.OK)
	}
	m.pending = number
	m.next = m.loadPending
	return m.slot != 0
}

// fail ends the walk where it stands nowhere.
func (m *Walk[P]) fail(e api.Errno) bool {
	m.slot = 0
	return m.end(e)
}

// end ends the walk; it may stand at its last slot still.
func (m *Walk[P]) end(e api.Errno) bool {
	m.ended, m.code = true, e
	m.next = m.leave
	return true
}

func (m *Walk[P]) leave() bool {
	m.slot = 0
	return true
}
