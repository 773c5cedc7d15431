package adya_test

import (
	"testing"

	"strata/adya"
	"strata/api"
)

func lostUpdate() api.History {
	return history(first(), txn(2, 5, r("x", 0, 1), w("x")), txn(3, 4, r("x", 0, 1), w("x")))
}

func writeSkew() api.History {
	return history(first(), txn(2, 4, r("x", 0, 1), r("y", 0, 1), w("x")), txn(3, 5, r("x", 0, 1), r("y", 0, 1), w("y")))
}

func fracturedRead() api.History {
	return history(first(), txn(2, 3, w("x"), w("y")), txn(2, 4, r("x", 1, 1), r("y", 0, 1)))
}

func twoPhantoms() api.History {
	return history(first(), txn(2, 5, s("", "", ver("x", 0, 1), ver("y", 0, 1)), w("u")), txn(3, 4, s("u", "v"), w("z")))
}

func TestLostUpdate(t *testing.T) {
	h := lostUpdate()
	order, e := adya.Order(h, "x")
	want(t, "P14.2: example 1", []any{order, e}, []any{[]int{0, 2, 1}, api.OK})
	edges(t, "example 1", h, edge(0, 1, api.EWR, "x"), edge(0, 2, api.EWW, "x"), edge(0, 2, api.EWR, "x"), edge(1, 2, api.ERW, "x"), edge(2, 1, api.EWW, "x"))
	shows(t, "example 1", h, api.GSIa, api.GSIb, api.G2Item, api.G2)
	embeds(t, "example 1", h, api.ErrOverlap)
	list, e := adya.Serial(h)
	want(t, "P14.7: example 1", []any{list, e}, []any{[]int{}, api.ErrCycle})
	w, e := adya.Witness(h, api.GSIa)
	want(t, "P14.5: example 1", []any{w, e}, []any{[]api.Edge{edge(2, 1, api.EWW, "x")}, api.OK})
}

func TestWriteSkew(t *testing.T) {
	h := writeSkew()
	edges(t, "example 2", h, edge(0, 1, api.EWW, "x"), edge(0, 1, api.EWR, "x"), edge(0, 1, api.EWR, "y"), edge(0, 2, api.EWW, "y"), edge(0, 2, api.EWR, "x"), edge(0, 2, api.EWR, "y"), edge(1, 2, api.ERW, "y"), edge(2, 1, api.ERW, "x"))
	shows(t, "example 2", h, api.G2Item, api.G2)
	for g, right := range map[api.Grade]bool{api.PL1: true, api.PL2: true, api.PLSI: true, api.PL299: false, api.PL3: false} {
		good, e := adya.Meets(h, g)
		want(t, "P14.6: example 2", []any{g, good, e}, []any{g, right, api.OK})
	}
	embeds(t, "example 2", h, api.OK, point(0, false, 0), point(0, true, 2), point(1, false, 4), point(2, false, 6), point(1, true, 8), point(2, true, 10))
}

func TestDirtyReads(t *testing.T) {
	h := history(first(), fated(api.FAborted, txn(2, 3, w("x"))), txn(4, 5, r("x", 1, 1)))
	shows(t, "example 3", h, api.G1a)
	h = history(first(), txn(2, 3, w("x"), w("x")), txn(4, 5, r("x", 1, 1)))
	shows(t, "example 3", h, api.G1b)
}

func TestFracturedRead(t *testing.T) {
	h := fracturedRead()
	edges(t, "example 4", h, edge(0, 1, api.EWW, "x"), edge(0, 1, api.EWW, "y"), edge(0, 2, api.EWR, "y"), edge(1, 2, api.EWR, "x"), edge(2, 1, api.ERW, "y"))
	shows(t, "example 4", h, api.GSIa, api.GSIb, api.G2Item, api.G2)
	embeds(t, "example 4", h, api.ErrOther)
}

func TestPhantoms(t *testing.T) {
	h := twoPhantoms()
	edges(t, "example 5", h, edge(0, 1, api.EWR, "x"), edge(0, 1, api.EWR, "y"), edge(0, 1, api.EWRP, "x"), edge(0, 1, api.EWRP, "y"), edge(1, 2, api.ERWP, "z"), edge(2, 1, api.ERWP, "u"))
	shows(t, "example 5", h, api.G2)
}

func TestEmptyHistory(t *testing.T) {
	for _, h := range []api.History{{}, {Txns: []api.HTxn{}}, history(fated(api.FOpen, first())), history(fated(api.FAborted, first()))} {
		checks(t, "example 6", h, api.OK, 0, 0)
		edges(t, "example 6", h)
		shows(t, "example 6", h)
		embeds(t, "example 6", h, api.OK)
		order, e := adya.Serial(h)
		want(t, "P14.7: example 6", []any{order, e}, []any{[]int{}, api.OK})
		same, e := adya.Replay(h)
		want(t, "P14.8: example 6", []any{same, e}, []any{true, api.OK})
		points, e := adya.Search(h)
		want(t, "P14.10: example 6", []any{points, e}, []any{[]api.Point{}, api.OK})
		later, e := adya.AtEnd(h)
		want(t, "P14.11: example 6", []any{later, e}, []any{h, api.OK})
		list, e := adya.Order(h, "x")
		want(t, "P14.2: example 6", []any{list, e}, []any{[]int{}, api.OK})
	}
}

func TestReadOfNothing(t *testing.T) {
	checks(t, "example 7", history(txn(0, 1, w("y")), txn(2, 3, r("x", 0, 1))), api.ErrHistory, 1, 0)
}

func TestTwoReaders(t *testing.T) {
	h := history(first(), txn(2, 5, r("x", 0, 1)), txn(2, 6, r("x", 0, 1)))
	order, e := adya.Serial(h)
	want(t, "P14.7: example 8", []any{order, e}, []any{[]int{0, 1, 2}, api.OK})
	for _, c := range []struct {
		order []int
		same  bool
		code  api.Errno
	}{{[]int{0, 1, 2}, true, api.OK}, {[]int{0, 2, 1}, true, api.OK}, {[]int{1, 0, 2}, false, api.OK}, {[]int{0, 1}, false, api.ErrOrder}} {
		same, e := adya.Replay(h, c.order...)
		want(t, "P14.8: example 8", []any{c.order, same, e}, []any{c.order, c.same, c.code})
	}
}
