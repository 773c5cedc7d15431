package chain

import "strata/api"

// Remove is the machine that marks a slot and unlinks it (P4.7).
type Remove[P any] struct {
	job
	index        *Index[P]
	bucket, slot int
	word         uint64 // the slot's link, as it was loaded last
	ahead        int    // the slot whose link names the present one; 0: the head does
	present      int
	behind       int // the number in the present one's link, which is marked
	marked       bool
	helped       int
}

// Remove begins one.
func (x *Index[P]) Remove(bucket, slot int) *Remove[P] {
	if x == nil {
		return nil
	}
	m := &Remove[P]{index: x, bucket: bucket, slot: slot}
	m.next = m.begin
	return m
}

// Step goes on by one access; true: done.
func (m *Remove[P]) Step() bool { return m == nil || m.next() }

// Code tells the error of a done one.
func (m *Remove[P]) Code() api.Errno {
	if m == nil {
		return api.ErrNil
	}
	return m.code
}

// Marked tells whether it was this one that put the mark (P4.8).
func (m *Remove[P]) Marked() bool { return m != nil && m.marked }

// Helped tells how many other marked slots it unlinked on its way (P4.8).
func (m *Remove[P]) Helped() int {
	if m == nil {
		return 0
	}
	return m.helped
}

func (m *Remove[P]) begin() bool {
	if !m.index.has(m.bucket) {
		return m.done(api.ErrBucket)
	}
	return m.loadOwn()
}

func (m *Remove[P]) loadOwn() bool {
	w, e := m.index.loadLink(m.slot)
	if e != api.OK {
		return m.done(e)
	}
	if w == 0 {
		return m.done(api.ErrUnlinked)
	}
	if _, marked := take(w); marked {
		return m.goOn(m.loadHead)
	}
	m.word = w
	return m.goOn(m.markOwn)
}

// markOwn puts the mark: from then on nobody can swap the slot's link, so that nothing is put in behind it and lost.
func (m *Remove[P]) markOwn() bool {
	number, _ := take(m.word)
	swapped, e := m.index.swapLink(m.slot, m.word, markOf(number))
	if e != api.OK {
		return m.done(e)
	}
	if !swapped {
		return m.goOn(m.loadOwn)
	}
	m.marked = true
	return m.goOn(m.loadHead)
}

func (m *Remove[P]) loadHead() bool {
	number, _ := take(m.index.loadHead(m.bucket))
	m.ahead = 0
	return m.moveTo(number)
}

// moveTo makes a number the present one; it is the answer of the step.
func (m *Remove[P]) moveTo(number int) bool {
	if isEnd(number) {
		return m.done(api.OK)
	}
	m.present = number
	return m.goOn(m.loadPresent)
}

func (m *Remove[P]) loadPresent() bool {
	w, e := m.index.loadLink(m.present)
	if e != api.OK {
		return m.done(e)
	}
	number, marked := take(w)
	if number == 0 {
		return m.done(api.ErrUnlinked)
	}
	if marked {
		m.behind = number
		return m.goOn(m.unlinkPresent)
	}
	m.ahead = m.present
	return m.moveTo(number)
}

// unlinkPresent leads the place ahead past the present slot. Where it fails that place has changed, or is marked itself and must not be built upon: all is looked for again from the head on.
func (m *Remove[P]) unlinkPresent() bool {
	swapped, e := m.swapAhead(linkOf(m.present), linkOf(m.behind))
	if e != api.OK {
		return m.done(e)
	}
	if !swapped {
		return m.goOn(m.loadHead)
	}
	if m.present == m.slot {
		return m.done(api.OK)
	}
	m.helped++
	return m.moveTo(m.behind)
}

func (m *Remove[P]) swapAhead(old, fresh uint64) (bool, api.Errno) {
	if m.ahead == 0 {
		return m.index.swapHead(m.bucket, old, fresh), api.OK
	}
	return m.index.swapLink(m.ahead, old, fresh)
}
