package adya

import (
	"slices"

	"strata/api"
)

// searched tries the orders of the moments, whatever their timestamps, till the machine takes all (P14.10).
func searched(b *book) ([]api.Point, api.Errno) {
	var points []api.Point
	var goOn func() bool
	m, txns := machineOf(b), b.committed()
	verdict, began := m.remembering(), map[int]int{}
	try := func(x moment, do, undo func()) bool {
		p, fits := x.point(points)
		if !fits {
			return false
		}
		points = append(points, p)
		do()
		if goOn() {
			return true
		}
		undo()
		points = points[:len(points)-1]
		return false
	}
	begin := func(t int) bool {
		return try(b.beginOf(t), func() { began[t] = len(m.commits) }, func() { delete(began, t) })
	}
	commit := func(t int) bool {
		return verdict(t, began[t]) == api.OK && try(b.commitOf(t), func() { m.commit(t) }, m.takeBack)
	}
	goOn = func() bool {
		for _, t := range txns {
			_, isOpen := began[t]
			if !isOpen && begin(t) || isOpen && !slices.Contains(m.commits, t) && commit(t) {
				return true
			}
		}
		return len(points) == 2*len(txns)
	}
	if !goOn() {
		return nil, api.ErrOther
	}
	return points, api.OK
}

// trial is a transaction that would commit behind these commits, having begun behind the first of them.
type trial struct {
	txn     int
	began   int
	count   int
	commits [api.MaxSearch]int
}

// remembering gives the machine's verdict, found once of each trial: a search comes to the same one in many orders.
func (m *machine) remembering() func(t, n int) api.Errno {
	tried := map[trial]api.Errno{}
	return func(t, n int) api.Errno {
		x := trial{txn: t, began: n, count: len(m.commits)}
		copy(x.commits[:], m.commits)
		e, again := tried[x]
		if !again {
			e = m.verdict(t, n)
			tried[x] = e
		}
		return e
	}
}
