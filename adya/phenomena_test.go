package adya_test

import (
	"fmt"
	"slices"
	"testing"

	"strata/adya"
	"strata/api"
)

// Each phenomenon alone, as far as there is such a history.
func TestEachAlone(t *testing.T) {
	aborted := fated(api.FAborted, txn(2, 3, w("x")))
	for _, c := range []struct {
		what  string
		h     api.History
		right []api.Phen
	}{
		{"one behind the other", history(first(), txn(2, 3, r("x", 0, 1), w("x")), txn(4, 5, r("x", 1, 1), s("", "", ver("x", 1, 1), ver("y", 0, 1)))), nil},
		{"one begins as the other ends", history(first(), txn(1, 2, r("x", 0, 1), w("y")), txn(2, 3, s("", "", ver("x", 0, 1), ver("y", 1, 1)))), nil},
		{"a read of an aborted one", history(first(), aborted, txn(4, 5, r("x", 1, 1))), []api.Phen{api.G1a}},
		{"a read of an open one", history(first(), fated(api.FOpen, aborted), txn(4, 5, r("x", 1, 1))), []api.Phen{api.G1a}},
		{"a scan of an aborted one", history(first(), aborted, txn(4, 5, s("x", "y", ver("x", 1, 1)))), []api.Phen{api.G1a}},
		{"its first, of an aborted one", history(first(), fated(api.FAborted, txn(2, 3, w("x"), w("x"))), txn(4, 5, r("x", 1, 1))), []api.Phen{api.G1a, api.G1b}},
		{"its last, of an aborted one", history(first(), fated(api.FAborted, txn(2, 3, w("x"), w("x"))), txn(4, 5, r("x", 1, 2))), []api.Phen{api.G1a}},
		{"its first", history(first(), txn(2, 3, w("x"), w("x")), txn(4, 5, r("x", 1, 1))), []api.Phen{api.G1b}},
		{"its first, by a scan", history(first(), txn(2, 3, w("x"), w("x")), txn(4, 5, s("x", "y", ver("x", 1, 1)))), []api.Phen{api.G1b}},
		{"what it has deleted then", history(first(), txn(2, 3, w("u"), d("u")), txn(4, 5, r("u", 1, 1))), []api.Phen{api.G1b}},
		{"its own first", history(first(), txn(2, 3, w("x"), r("x", 1, 1), s("x", "y", ver("x", 1, 1)), w("x"))), nil},
		{"each reads the other's", history(txn(1, 4, w("x"), r("y", 1, 1)), txn(2, 3, w("y"), r("x", 0, 1))), []api.Phen{api.G1c, api.GSIa}},
		{"written over what has read it", history(txn(1, 4, w("x"), r("y", 1, 1)), txn(2, 5, w("y"), w("x"))), []api.Phen{api.G1c, api.GSIa}},
		{"a scan of what comes", history(txn(1, 4, w("x"), s("y", "", ver("y", 1, 1))), txn(2, 5, w("y"), w("x"))), []api.Phen{api.G1c, api.GSIa}},
		{"a read behind the begin", history(txn(1, 3, w("x")), txn(2, 4, r("x", 0, 1))), []api.Phen{api.GSIa}},
		{"a write behind the begin", history(txn(1, 3, w("x")), txn(2, 4, w("x"))), []api.Phen{api.GSIa}},
		{"a scan behind the begin", history(txn(0, 1, w("x")), txn(1, 3, d("x")), txn(2, 4, at(s("x", "y"), 3))), []api.Phen{api.GSIa}},
		{"an old version", history(first(), txn(2, 3, w("x")), txn(4, 5, r("x", 0, 1))), []api.Phen{api.GSIb}},
		{"an old version, begun at the end", history(first(), txn(2, 3, w("x")), txn(3, 5, r("x", 0, 1))), []api.Phen{api.GSIb}},
		{"an old version, begun ahead of the end", history(first(), txn(2, 4, w("x")), txn(3, 5, r("x", 0, 1))), nil},
		{"an old version by a scan", history(first(), txn(2, 3, w("x")), txn(4, 5, s("x", "y", ver("x", 0, 1)))), []api.Phen{api.GSIb}},
		{"a deleted one", history(first(), txn(2, 3, d("x")), txn(4, 5, s("x", "y", ver("x", 0, 1)))), []api.Phen{api.GSIb}},
		{"write skew", writeSkew(), []api.Phen{api.G2Item, api.G2}},
		{"phantoms", twoPhantoms(), []api.Phen{api.G2}},
		{"an item and a phantom", history(first(), txn(2, 4, r("x", 0, 1), w("u")), txn(3, 5, s("u", "v"), w("x"))), []api.Phen{api.G2Item, api.G2}},
	} {
		shows(t, c.what, c.h, c.right...)
	}
}

// Only committed transactions count: without the one, the others show nothing.
func TestOnlyCommittedCount(t *testing.T) {
	for _, h := range []api.History{lostUpdate(), writeSkew(), fracturedRead(), twoPhantoms(),
		history(first(), txn(1, 4, w("x"), r("y", 2, 1)), txn(2, 3, w("y"), r("x", 1, 1)))} {
		if len(phenomena(h)) < 1 {
			t.Errorf("P14.4: nothing in %+v", h)
		}
		h.Txns[2].Fate = api.FAborted
		if right := plainPhenomena(h, plainEdges(h)); slices.Contains(right, api.G1c) || slices.Contains(right, api.G2) || slices.Contains(right, api.GSIb) {
			t.Errorf("P14.4: %v in %+v", right, h)
		}
		shows(t, "one has aborted", h, plainPhenomena(h, plainEdges(h))...)
	}
}

// ring gives n transactions, each of which is tied to the next, the last one to the first.
func ring(n int, tie func(i, next int) (mine, others api.HOp)) api.History {
	h := api.History{Txns: make([]api.HTxn, n)}
	for i := range n {
		h.Txns[i] = placed(txn(1, uint64(2*i+4)), 0, 9, 9, 0)
	}
	for i := range n {
		next := (i + 1) % n
		mine, others := tie(i, next)
		h.Txns[i].Ops = append([]api.HOp{mine}, h.Txns[i].Ops...)
		h.Txns[next].Ops = append(h.Txns[next].Ops, others)
	}
	for i, x := range h.Txns {
		h.Txns[i].Ops = txn(x.Begin, x.End, x.Ops...).Ops
	}
	return h
}

func keyOf(i int) string { return fmt.Sprintf("k%03d", i) }

// Cycles of many transactions; the witness goes round all of them.
func TestLongCycles(t *testing.T) {
	for _, n := range []int{2, 3, 7, 256} {
		given := ring(n, func(i, next int) (api.HOp, api.HOp) { return w(keyOf(i)), r(keyOf(i), i, 1) })
		item := ring(n, func(i, next int) (api.HOp, api.HOp) { return r(keyOf(i), n, 1), w(keyOf(i)) })
		item.Txns = append(item.Txns, txn(0, 1))
		for i := range n {
			item.Txns[n].Ops = append(item.Txns[n].Ops, w(keyOf(i)))
		}
		if n == 256 {
			item.Txns = nil // one too many
		}
		range1 := ring(n, func(i, next int) (api.HOp, api.HOp) { return s(keyOf(i), keyOf(i)+"\x00"), w(keyOf(i)) })
		for _, c := range []struct {
			h     api.History
			right []api.Phen
			kind  api.EdgeKind
		}{{given, []api.Phen{api.G1c, api.GSIa}, api.EWR}, {item, []api.Phen{api.G2Item, api.G2}, api.ERW}, {range1, []api.Phen{api.G2}, api.ERWP}} {
			if len(c.h.Txns) == 0 {
				continue
			}
			got, e := adya.Phenomena(c.h)
			want(t, fmt.Sprint("P14.4: a ring of ", n), []any{got, e}, []any{c.right, api.OK})
			list, e := adya.Witness(c.h, c.right[len(c.right)-1])
			if c.kind == api.EWR {
				list, e = adya.Witness(c.h, api.G1c)
			}
			met := map[int]int{}
			for i, x := range list {
				if x.Kind != c.kind || x.To != (x.From+1)%n || x.Key != keyOf(x.From) || x.To != list[(i+1)%n].From {
					t.Fatalf("P14.5: a ring of %d: %+v", n, list)
				}
				met[x.From]++
			}
			want(t, fmt.Sprint("P14.5: a ring of ", n), []any{len(list), len(met), e}, []any{n, n, api.OK})
			_, e = adya.Serial(c.h)
			want(t, "P14.7: a ring", e, api.ErrCycle)
			c.h.Txns[n-1].Fate = api.FAborted
			if got := phenomena(c.h); slices.Contains(got, api.G1c) || slices.Contains(got, api.G2) {
				t.Errorf("P14.4: a ring of %d, torn: %v", n, got)
			}
		}
	}
}

// The cycles lie apart from transactions with lesser numbers that lead into them, and from edges that lead out.
func TestCyclesWithWaysInAndOut(t *testing.T) {
	h := history(
		txn(0, 1, w("x"), w("y"), w("z")),
		txn(0, 2, w("q"), r("x", 0, 1)),
		txn(2, 8, r("q", 1, 1), r("x", 0, 1), w("y"), w("out")),
		txn(2, 9, r("y", 0, 1), w("z")),
		txn(2, 10, r("z", 0, 1), w("x")),
		txn(11, 12, r("out", 2, 1), w("far")),
		txn(13, 14, r("far", 5, 1)))
	shows(t, "a way in and a way out", h, api.GSIa, api.G2Item, api.G2)
	list, _ := adya.Witness(h, api.G2Item)
	want(t, "P14.5: three of seven", len(list), 3)
}

// A way of GSIb along edges and start edges, with transactions between.
func TestStartEdges(t *testing.T) {
	h := history(
		txn(0, 1, w("x")),
		txn(2, 3, w("x"), w("a")),
		txn(3, 4, r("a", 1, 1), w("b")),
		txn(5, 6, r("x", 0, 1)))
	shows(t, "a start edge at the end", h, api.GSIb)
	// 1 hands on to 2, which has ended as 3 begins; 1 itself has not
	h = history(
		txn(0, 1, w("x")),
		txn(2, 30, w("x"), w("a")),
		txn(3, 4, r("a", 1, 1)),
		txn(5, 40, r("x", 0, 1)))
	shows(t, "a start edge behind an edge", h, api.GSIa, api.GSIb)
	list, e := adya.Witness(h, api.GSIb)
	want(t, "P14.5: the way", []any{sorted(list), e}, []any{[]api.Edge{edge(1, 2, api.EWR, "a"), edge(2, 3, 0, ""), edge(3, 1, api.ERW, "x")}, api.OK})
	h.Txns[3].Begin = 3
	h.Txns[3] = placed(h.Txns[3], 4, 5, 90, 91)
	h.Txns[3].Ops[0].At = 3
	shows(t, "begun ahead of its end", h, api.GSIa)
	// a way along ERW edges is none of GSIb
	shows(t, "two ERW edges", writeSkew(), api.G2Item, api.G2)
	// start edges do not count among those of G2
	shows(t, "a start edge closes no cycle of G2", history(first(), txn(2, 3, w("x")), txn(4, 5, r("x", 0, 1))), api.GSIb)
}

func sorted(list []api.Edge) []api.Edge {
	slices.SortFunc(list, func(a, b api.Edge) int { return a.From - b.From })
	return list
}

func TestNoSuchPhenomenon(t *testing.T) {
	for _, p := range strange() {
		if p >= 1 && p <= 8 {
			continue
		}
		list, e := adya.Witness(writeSkew(), api.Phen(p))
		want(t, fmt.Sprint("P14.5: ", p), []any{list, e}, []any{[]api.Edge{}, api.ErrPhen})
	}
	for _, g := range strange() {
		if g >= 1 && g <= 5 {
			continue
		}
		for _, h := range []api.History{{}, writeSkew()} {
			good, e := adya.Meets(h, api.Grade(g))
			want(t, fmt.Sprint("P14.6: ", g), []any{good, e}, []any{false, api.ErrGrade})
		}
	}
}

// P14.6: each grade, by histories of which each lacks just what one phenomenon takes away.
func TestGrades(t *testing.T) {
	for _, c := range []struct {
		what  string
		h     api.History
		right [api.PL3 + 1]bool // PL1, PL2, PLSI, PL299, PL3
	}{
		{"nothing", history(first()), [6]bool{false, true, true, true, true, true}},
		{"G1a", history(fated(api.FOpen, first()), txn(2, 3, r("x", 0, 1))), [6]bool{false, true, false, false, false, false}},
		{"G1b", history(txn(0, 1, w("x"), w("x")), txn(2, 3, r("x", 0, 1))), [6]bool{false, true, false, false, false, false}},
		{"G1c", history(txn(1, 4, w("x"), r("y", 1, 1)), txn(2, 3, w("y"), r("x", 0, 1))), [6]bool{false, true, false, false, false, false}},
		{"GSIa", history(txn(1, 3, w("x")), txn(2, 4, r("x", 0, 1))), [6]bool{false, true, true, false, true, true}},
		{"GSIb", history(first(), txn(2, 3, w("x")), txn(4, 5, r("x", 0, 1))), [6]bool{false, true, true, false, true, true}},
		{"G2Item", writeSkew(), [6]bool{false, true, true, true, false, false}},
		{"G2", twoPhantoms(), [6]bool{false, true, true, true, true, false}},
	} {
		for g := api.PL1; g <= api.PL3; g++ {
			good, e := adya.Meets(c.h, g)
			want(t, fmt.Sprint("P14.6: ", c.what, ", ", g), []any{good, e}, []any{c.right[g], api.OK})
		}
	}
}
