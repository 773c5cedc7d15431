package version

import "strata/api"

// See is the machine that decides whether a transaction sees a version at a timestamp (P7.5).
type See struct{ sight }

// See begins one.
func (b *Base) See(id, slot int, at uint64) *See {
	if b.missing() {
		return nil
	}
	m := &See{}
	m.prepare(b, id, slot, at, m.pass)
	return m
}

// Step goes on by at most one access; true: done.
func (m *See) Step() bool { return m == nil || m.step() }

// Code tells the error of a done one.
func (m *See) Code() api.Errno {
	if m == nil {
		return api.ErrNil
	}
	return m.told()
}

// Seen tells what it decided.
func (m *See) Seen() bool { return m != nil && m.verdict == api.BarSeen }

// Bar is the machine that decides whether a version stands in the way of an insert of its key (P7.6).
type Bar struct{ sight }

// Bar begins one.
func (b *Base) Bar(id, slot int, at uint64) *Bar {
	if b.missing() {
		return nil
	}
	m := &Bar{}
	m.prepare(b, id, slot, at, m.busy)
	return m
}

// Step goes on by at most one access; true: done.
func (m *Bar) Step() bool { return m == nil || m.step() }

// Code tells the error of a done one.
func (m *Bar) Code() api.Errno {
	if m == nil {
		return api.ErrNil
	}
	return m.told()
}

// Bar tells what it decided: api.BarNone, BarSeen, BarBusy.
func (m *Bar) Bar() int {
	if m == nil {
		return 0
	}
	return m.verdict
}
