package chain

import "strata/api"

// Insert is the machine that links a slot at the head of a bucket (P4.4).
type Insert[P any] struct {
	job
	index        *Index[P]
	bucket, slot int
	head         uint64 // as it was loaded last
	tries        int
}

// Insert begins one.
func (x *Index[P]) Insert(bucket, slot int) *Insert[P] {
	if x == nil {
		return nil
	}
	m := &Insert[P]{index: x, bucket: bucket, slot: slot}
	m.next = m.begin
	return m
}

// Step goes on by one access; true: done.
func (m *Insert[P]) Step() bool { return m == nil || m.next() }

// Code tells the error of a done one.
func (m *Insert[P]) Code() api.Errno {
	if m == nil {
		return api.ErrNil
	}
	return m.code
}

// Tries tells how often its swap has failed (P4.5).
func (m *Insert[P]) Tries() int {
	if m == nil {
		return 0
	}
	return m.tries
}

// begin looks whether the slot was ever linked: its link would be lost, and with it what follows in its list.
func (m *Insert[P]) begin() bool {
	if !m.index.has(m.bucket) {
		return m.done(api.ErrBucket)
	}
	w, e := m.index.loadLink(m.slot)
	if e != api.OK {
		return m.done(e)
	}
	if w != 0 {
		return m.done(api.ErrLinked)
	}
	return m.goOn(m.loadHead)
}

func (m *Insert[P]) loadHead() bool {
	m.head = m.index.loadHead(m.bucket)
	return m.goOn(m.storeLink)
}

func (m *Insert[P]) storeLink() bool {
	if e := m.index.storeLink(m.slot, m.head); e != api.OK {
		return m.done(e)
	}
	return m.goOn(m.swapHead)
}

func (m *Insert[P]) swapHead() bool {
	if m.index.swapHead(m.bucket, m.head, linkOf(m.slot)) {
		return m.done(api.OK)
	}
	m.tries++
	return m.goOn(m.loadHead)
}
