package adya_test

import (
	"fmt"
	"math"
	"testing"

	"strata/adya"
	"strata/api"
)

func serial(t *testing.T, what string, h api.History, right ...int) {
	t.Helper()
	checks(t, what, h, api.OK, 0, 0)
	order, e := adya.Serial(h)
	want(t, "P14.7: "+what, []any{order, e}, []any{right, api.OK})
}

// P14.7: of several orders that would do, the one with the least number at each place.
func TestSerial(t *testing.T) {
	serial(t, "no edges", history(txn(4, 5, w("x")), txn(2, 3, w("y")), txn(0, 1, w("z"))), 0, 1, 2)
	serial(t, "against the numbers", history(txn(4, 5, r("x", 2, 1)), txn(2, 3, w("y")), txn(0, 1, w("x"))), 1, 2, 0)
	serial(t, "a number gets free by a later one", history(txn(8, 9, r("z", 3, 1)), txn(6, 7, w("u")), txn(4, 5, w("v")), txn(0, 1, w("z")), txn(10, 11)), 1, 2, 3, 0, 4)
	serial(t, "those that have committed alone", history(fated(api.FOpen, txn(0, 1, w("x"))), txn(4, 5, r("x", 2, 1)), txn(2, 3, w("x")), fated(api.FAborted, txn(6, 7)), txn(8, 9)), 2, 1, 4)
	serial(t, "against the ends", history(first(), txn(2, 3, w("x")), txn(2, 5, r("x", 0, 1))), 0, 2, 1)
	serial(t, "many edges between two", history(txn(2, 3, r("x", 1, 1), r("y", 1, 1), s("", "", ver("x", 1, 1), ver("y", 1, 1)), w("x"), w("y")), first()), 1, 0)
	for what, h := range map[string]api.History{"item": writeSkew(), "phantoms": twoPhantoms(), "lost update": lostUpdate()} {
		for range 3 { // others ahead and behind do not help
			h.Txns = append(h.Txns, txn(100, uint64(100+len(h.Txns)), w("other")))
		}
		order, e := adya.Serial(h)
		want(t, "P14.7: a cycle: "+what, []any{order, e}, []any{[]int{}, api.ErrCycle})
	}
}

// orders tells all orders of the numbers 0 to n - 1.
func orders(n int) [][]int {
	if n == 0 {
		return [][]int{nil}
	}
	var all [][]int
	for _, list := range orders(n - 1) {
		for i := range n {
			all = append(all, append(append(append([]int{}, list[:i]...), n-1), list[i:]...))
		}
	}
	return all
}

// P14.8: every order of three transactions.
func TestReplayOfAllOrders(t *testing.T) {
	for _, c := range []struct {
		what string
		h    api.History
		good string // the orders in which all are told the same
	}{
		{"no reads", history(txn(0, 1, w("x")), txn(2, 3, w("x")), txn(4, 5, d("x"))), "[0 1 2] [0 2 1] [1 0 2] [1 2 0] [2 0 1] [2 1 0] "},
		{"a read", history(txn(0, 1, w("x")), txn(2, 3, w("x")), txn(4, 5, r("x", 1, 1))), "[0 1 2] [1 2 0] "},
		{"a scan", history(txn(0, 1, w("x")), txn(2, 3, w("x")), txn(4, 5, s("", "", ver("x", 1, 1)))), "[0 1 2] [1 2 0] "},
		{"a scan of nothing", history(txn(0, 1, w("x")), txn(2, 3, d("x")), txn(4, 5, s("", ""))), "[0 1 2] [1 2 0] [2 0 1] [2 1 0] "},
		{"a scan of a range", history(txn(0, 1, w("x")), txn(2, 3, w("w"), w("y")), txn(4, 5, s("x", "y", ver("x", 0, 1)))), "[0 1 2] [0 2 1] [1 0 2] "},
		{"two keys", history(first(), txn(2, 3, w("x"), w("z")), txn(4, 5, s("", "", ver("x", 1, 1), ver("y", 0, 1), ver("z", 1, 1)))), "[0 1 2] "},
		{"its own", history(txn(0, 1, w("x")), txn(2, 3, w("x"), r("x", 1, 1), w("x"), s("", "", ver("x", 1, 2)), d("x"), s("", "")), txn(4, 5)), "[0 1 2] [0 2 1] [1 0 2] [1 2 0] [2 0 1] [2 1 0] "},
		{"not its last", history(txn(0, 1, w("x"), w("x")), txn(2, 3, r("x", 0, 1)), txn(4, 5)), ""},
		{"in a line", history(txn(0, 1, w("x")), txn(2, 3, r("x", 0, 1), w("x")), txn(4, 5, r("x", 1, 1), w("x"))), "[0 1 2] "},
		{"write skew", writeSkew(), ""},
		{"against the ends", history(first(), txn(2, 3, w("x")), txn(4, 5, r("x", 0, 1))), "[0 2 1] [1 0 2] "},
		{"readers of readers", history(first(), txn(2, 5, r("x", 0, 1)), txn(2, 6, r("x", 0, 1))), "[0 1 2] [0 2 1] "},
	} {
		checks(t, c.what, c.h, api.OK, 0, 0)
		for _, order := range orders(3) {
			right := len(c.good) > 0 && contains(c.good, fmt.Sprint(order))
			same, e := adya.Replay(c.h, order...)
			want(t, fmt.Sprint("P14.8: ", c.what, " ", order), []any{same, e}, []any{right, api.OK})
		}
	}
}

func contains(text, part string) bool {
	for i := 0; i+len(part) <= len(text); i++ {
		if text[i:i+len(part)] == part {
			return true
		}
	}
	return false
}

func TestNoOrder(t *testing.T) {
	h := history(first(), fated(api.FAborted, txn(2, 3)), txn(4, 5), fated(api.FOpen, txn(6, 7)), txn(8, 9))
	for _, order := range [][]int{nil, {}, {0}, {0, 2}, {2, 4}, {0, 2, 4, 4}, {0, 2, 4, 0}, {0, 2, 2}, {0, 0, 0}, {0, 1, 2}, {0, 2, 3}, {0, 1, 2, 4}, {0, 1, 2, 3, 4}, {0, 2, 5}, {0, 2, 4, 5}, {-1, 0, 2, 4}, {-1, 2, 4}, {0, 2, math.MaxInt}, {0, 2, math.MinInt}, make([]int, 100000)} {
		same, e := adya.Replay(h, order...)
		want(t, fmt.Sprint("P14.8: ", len(order)), []any{same, e}, []any{false, api.ErrOrder})
	}
	for _, order := range [][]int{{0, 2, 4}, {4, 2, 0}, {2, 0, 4}} {
		same, e := adya.Replay(h, order...)
		want(t, fmt.Sprint("P14.8: ", order), []any{same, e}, []any{true, api.OK})
	}
	_, e := adya.Replay(history(), 0)
	want(t, "P14.8: of nothing", e, api.ErrOrder)
}

// P14.11: the scans of Serializable transactions that have committed look at their end; nothing else is changed.
func TestAtEnd(t *testing.T) {
	ops := []api.HOp{s("u", "v"), r("x", 0, 1), w("z"), s("x", "y", ver("x", 0, 1))}
	ops[1].Seen, ops[2].Seen, ops[2].At = []api.Ver{ver("?", 7, 7)}, []api.Ver{ver("!", 8, 8)}, 99
	later := func(x api.HTxn) api.HTxn { return as(full, txn(2, 9, x.Ops...)) }
	x := later(txn(0, 0, ops...))
	h := history(first(), x, as(rr, txn(2, 8, ops...)), fated(api.FAborted, as(full, txn(2, 7, ops...))), fated(api.FOpen, as(full, txn(2, 6, ops...))), as(full, txn(3, 10)))
	checks(t, "AtEnd", h, api.OK, 0, 0)
	got, e := adya.AtEnd(h)
	right := history(h.Txns...)
	right.Txns = append([]api.HTxn{}, h.Txns...)
	right.Txns[1] = as(full, txn(2, 9, at(ops[0], 9), ops[1], ops[2], at(ops[3], 9)))
	right.Txns[1].Ops[2].At = 99
	want(t, "P14.11", []any{got, e}, []any{right, api.OK})
	want(t, "P14.11: not changed", []uint64{h.Txns[1].Ops[0].At, h.Txns[1].Ops[3].At}, []uint64{2, 2})
	// what is new at the end makes it none
	h = history(first(), as(full, txn(2, 5, s("u", "v"))), txn(3, 4, w("u")))
	got, e = adya.AtEnd(h)
	want(t, "P14.11", []any{got.Txns[1].Ops[0].At, e}, []any{5, api.OK})
	checks(t, "AtEnd", got, api.ErrHistory, 1, 0)
	// a phantom that was gone again: at the begin the scan stands ahead of it, at the end behind it
	h = history(first(), as(full, txn(2, 9, s("u", "v"))), txn(3, 4, w("u")), txn(5, 6, d("u")))
	edges(t, "at the begin", h, edge(1, 2, api.ERWP, "u"), edge(2, 3, api.EWW, "u"))
	got, _ = adya.AtEnd(h)
	edges(t, "at the end", got, edge(2, 3, api.EWW, "u"), edge(3, 1, api.EWRP, "u"))
}
