package sweep

import (
	"strata/api"
	"strata/chain"
)

// Pass is the machine of a whole round over one bucket: it finds the floor, frees what waits below it, enters the table as one that is at work, looks at each version of the bucket, and leaves the table (P8.7).
type Pass struct {
	course
	bucket   int
	floor    uint64
	id       int // of its own record
	walk     *chain.Walk[api.Entry]
	unlinked int
	fault    api.Errno // what went wrong ahead of Quit
}

// Pass begins one.
func (s *Sweeper) Pass(bucket int) *Pass {
	if s.missing() {
		return nil
	}
	m := &Pass{course: course{sweeper: s}, bucket: bucket}
	if bucket < 0 || bucket >= s.base.Hash.Buckets() {
		m.refuse(api.ErrBucket)
	} else {
		m.findFloor()
	}
	return m
}

// Step goes on by at most one access; true: done.
func (m *Pass) Step() bool { return m == nil || m.drive() }

// Code tells the error of a done one.
func (m *Pass) Code() api.Errno {
	if m == nil {
		return api.ErrNil
	}
	return m.told()
}

// Unlinked tells how many versions it has put into limbo so far.
func (m *Pass) Unlinked() int {
	if m == nil {
		return 0
	}
	return m.unlinked
}

// Floor tells the floor that it found; 0 before.
func (m *Pass) Floor() uint64 {
	if m == nil {
		return 0
	}
	return m.floor
}

func (m *Pass) findFloor() {
	floor := m.sweeper.base.Tx.Floor()
	m.follow(floor, func() {
		m.floor = floor.Floor()
		m.freeRecord()
	})
}

func (m *Pass) freeRecord() {
	freed := false
	m.reach(func() (e api.Errno) {
		freed, e = m.sweeper.base.Tx.Free(m.floor)
		return e
	}, func() {
		if freed {
			m.freeRecord()
			return
		}
		m.follow(m.sweeper.Reclaim(m.floor, api.MaxSlots), m.open)
	})
}

// open takes a record with an empty TxInfo: no session's is like that.
func (m *Pass) open() {
	m.reach(func() (e api.Errno) {
		m.id, e = m.sweeper.base.Tx.Open(api.TxInfo{})
		return e
	}, m.start)
}

func (m *Pass) start() {
	start := m.sweeper.base.Tx.Start(m.id)
	m.run(start, func() {
		switch e := start.Code(); e {
		case api.OK:
			m.walk = m.sweeper.base.Hash.Walk(m.bucket)
			m.goOn()
		case api.ErrClock:
			m.quit(e)
		default:
			m.finish(e)
		}
	})
}

// goOn leaves the next slot to the next step, unless none comes: a walk that is ended is not stepped on.
func (m *Pass) goOn() {
	if m.walk.Ended() {
		m.quit(m.walk.Code())
		return
	}
	m.run(m.walk, m.arrive)
}

// arrive looks at the version first, whatever the walk has met behind it.
func (m *Pass) arrive() {
	if m.walk.Slot() == 0 {
		m.goOn()
		return
	}
	collect := m.sweeper.Collect(m.walk.Slot(), m.floor)
	m.run(collect, func() {
		switch e := collect.Code(); e {
		case api.OK:
			m.unlinked++
			m.goOn()
		case api.ErrNeeded, api.ErrClaimed:
			m.goOn()
		default:
			m.quit(e)
		}
	})
}

// quit gives the record back at once: nothing holds its number. What went wrong ahead of it is told in its stead.
func (m *Pass) quit(fault api.Errno) {
	m.fault = fault
	quit := m.sweeper.base.Tx.Quit(m.id)
	m.run(quit, func() {
		if m.fault == api.OK {
			m.fault = quit.Code()
		}
		m.finish(m.fault)
	})
	if noAccess(fault) {
		m.drive()
	}
}

// noAccess tells whether an error is that of a step that has reached no shared memory: such a step goes on till it has made its access.
func noAccess(e api.Errno) bool { return e == api.ErrSlot || e == api.ErrLevel }
