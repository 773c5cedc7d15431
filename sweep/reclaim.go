package sweep

import "strata/api"

// Reclaim is the machine that frees those in limbo whose stamp is below a floor, oldest first, at most a number of them (P8.6).
type Reclaim struct {
	course
	floor uint64
	most  int
	slot  int // out of limbo, and not yet freed
	freed int
}

// Reclaim begins one.
func (s *Sweeper) Reclaim(floor uint64, most int) *Reclaim {
	if s.missing() {
		return nil
	}
	m := &Reclaim{course: course{sweeper: s}, floor: floor, most: most}
	if most < 1 {
		m.refuse(api.OK)
	} else {
		m.look()
	}
	return m
}

// Step goes on by at most one access; true: done.
func (m *Reclaim) Step() bool { return m == nil || m.drive() }

// Code tells the error of a done one.
func (m *Reclaim) Code() api.Errno {
	if m == nil {
		return api.ErrNil
	}
	return m.told()
}

// Freed tells how many it has freed so far.
func (m *Reclaim) Freed() int {
	if m == nil {
		return 0
	}
	return m.freed
}

func (m *Reclaim) look() {
	m.reach(func() api.Errno {
		m.slot = m.sweeper.limbo.look(m.floor)
		return api.OK
	}, func() {
		if m.slot == 0 {
			m.finish(api.OK)
			return
		}
		m.free()
	})
}

func (m *Reclaim) free() {
	m.reach(func() api.Errno { return m.sweeper.base.Cells.Free(m.slot) }, func() {
		m.freed++
		m.sweeper.limbo.noteFreed()
		if m.freed == m.most {
			m.finish(api.OK)
			return
		}
		m.look()
	})
}
