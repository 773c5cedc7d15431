package adya

import (
	"cmp"
	"math"
	"slices"

	"strata/api"
)

// moment is a transaction's begin or commit, and between which places it can be.
type moment struct {
	txn       int
	isCommit  bool
	stamp     uint64
	turn      int // of equal stamps the lesser turn comes first
	low, high int
}

const (
	beginOfNoTime = iota
	commitOfOne
	otherBegin
)

func (b *book) beginOf(t int) moment {
	x := b.txns[t]
	m := moment{txn: t, stamp: x.Begin, turn: otherBegin, low: x.BeginIn, high: x.BeginOut}
	if x.Begin == x.End {
		m.turn = beginOfNoTime
	}
	return m
}

func (b *book) commitOf(t int) moment {
	x := b.txns[t]
	m := moment{txn: t, isCommit: true, stamp: x.End, turn: commitOfOne, low: x.EndIn, high: x.EndOut}
	if x.EndOut == 0 {
		m.high = math.MaxInt
	}
	return m
}

// point gives a moment the least place that it can have behind the points that are there.
func (m moment) point(ahead []api.Point) (p api.Point, fits bool) {
	p = api.Point{Txn: m.txn, Commit: m.isCommit, At: m.low}
	if n := len(ahead); n > 0 {
		p.At = max(p.At, ahead[n-1].At)
	}
	return p, p.At <= m.high
}

// moments tells those of the committed transactions, in the order of their timestamps.
func (b *book) moments() []moment {
	var list []moment
	for _, t := range b.committed() {
		list = append(list, b.beginOf(t), b.commitOf(t))
	}
	slices.SortFunc(list, func(x, y moment) int {
		return cmp.Or(cmp.Compare(x.stamp, y.stamp), cmp.Compare(x.turn, y.turn), cmp.Compare(x.txn, y.txn))
	})
	return list
}

// embedded runs the machine along the timestamps (P14.9).
func embedded(b *book) ([]api.Point, api.Errno) {
	var points []api.Point
	moments := b.moments()
	for _, x := range moments {
		p, fits := x.point(points)
		if !fits {
			return nil, api.ErrPoints
		}
		points = append(points, p)
	}
	m, began := machineOf(b), map[int]int{}
	for _, x := range moments {
		if !x.isCommit {
			began[x.txn] = len(m.commits)
			continue
		}
		if e := m.verdict(x.txn, began[x.txn]); e != api.OK {
			return nil, e
		}
		m.commit(x.txn)
	}
	return points, api.OK
}
