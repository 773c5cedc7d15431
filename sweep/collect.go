package sweep

import (
	"strata/api"
	"strata/bits"
)

// Collect is the machine that looks at one version and, if it is garbage, claims it, takes it out of both indexes and puts it into limbo (P8.5).
type Collect struct {
	course
	slot  int
	floor uint64
	stamp uint64
}

// Collect begins one.
func (s *Sweeper) Collect(slot int, floor uint64) *Collect {
	if s.missing() {
		return nil
	}
	m := &Collect{course: course{sweeper: s}, slot: slot, floor: floor}
	m.lookAtBegin()
	return m
}

// Step goes on by at most one access; true: done.
func (m *Collect) Step() bool { return m == nil || m.drive() }

// Code tells the error of a done one: api.ErrNeeded, if it is no garbage; api.ErrClaimed, if another one has it.
func (m *Collect) Code() api.Errno {
	if m == nil {
		return api.ErrNil
	}
	return m.told()
}

// lookAtBegin goes by the begin word alone where that says enough: when a version ends does not matter if it never began.
func (m *Collect) lookAtBegin() {
	var begin uint64
	m.reach(func() (e api.Errno) {
		begin, e = m.sweeper.base.Cells.Load(m.slot, api.CellBegin)
		return e
	}, func() {
		switch kind, _ := bits.Split(begin); kind {
		case api.WInf:
			m.claim()
		case api.WTime:
			m.lookAtEnd(begin)
		default:
			m.finish(api.ErrNeeded)
		}
	})
}

func (m *Collect) lookAtEnd(begin uint64) {
	var end uint64
	m.reach(func() (e api.Errno) {
		end, e = m.sweeper.base.Cells.Load(m.slot, api.CellEnd)
		return e
	}, func() {
		if !Garbage(begin, end, m.floor) {
			m.finish(api.ErrNeeded)
			return
		}
		m.claim()
	})
}

// claim lets one of all that want to take a version out be the one that does: garbage stays garbage, so nothing has to be looked at again behind it.
func (m *Collect) claim() {
	won := false
	m.reach(func() (e api.Errno) {
		won, e = m.sweeper.base.Cells.CAS(m.slot, api.CellClaim, 0, 1)
		return e
	}, func() {
		if !won {
			m.finish(api.ErrClaimed)
			return
		}
		m.unlink()
	})
}

func (m *Collect) unlink() {
	base := m.sweeper.base
	version, e := base.Cells.Payload(m.slot)
	if e != api.OK {
		m.finish(e)
		return
	}
	m.follow(base.Hash.Remove(base.Bucket(version.Name), m.slot), func() {
		m.follow(base.Order.Remove(m.slot), m.drawStamp)
	})
}

// drawStamp asks the clock behind both indexes: whoever begins from now on can't come to the version any more.
func (m *Collect) drawStamp() {
	m.reach(func() (e api.Errno) {
		m.stamp, e = m.sweeper.base.Tx.Clock()
		return e
	}, m.enterLimbo)
}

func (m *Collect) enterLimbo() {
	m.reach(func() api.Errno {
		m.sweeper.limbo.enter(m.slot, m.stamp)
		return api.OK
	}, func() { m.finish(api.OK) })
}
