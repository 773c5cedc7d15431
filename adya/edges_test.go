package adya_test

import (
	"testing"

	"strata/adya"
	"strata/api"
)

const ww, wr, wrp, rw, rwp = api.EWW, api.EWR, api.EWRP, api.ERW, api.ERWP

// P14.2: by the ends, each once, whatever became of it within; those that have not committed install nothing.
func TestOrder(t *testing.T) {
	h := history(
		txn(2, 9, w("x"), w("x"), d("x")),
		txn(0, 1, w("x"), w("y")),
		fated(api.FAborted, txn(2, 3, w("x"))),
		fated(api.FOpen, txn(2, 3, w("x"))),
		placed(txn(4, 4, d("x"), w("")), 8, 8, 8, 9),
		txn(5, 7, w("x\x00"), d("x\x00")))
	for key, right := range map[string][]int{"x": {1, 4, 0}, "y": {1}, "": {4}, "x\x00": {5}, "w": nil, "X": nil} {
		list, e := adya.Order(h, key)
		want(t, "P14.2: "+key, []any{list, e}, []any{right, api.OK})
	}
}

func TestEdgesOfWrites(t *testing.T) {
	h := history(txn(4, 9, w("x"), w("x"), d("x")), txn(0, 1, w("x")), txn(2, 3, d("x"), w("y")), fated(api.FAborted, txn(4, 5, w("x"), w("y"))), txn(6, 7, w("x"), w("y")))
	edges(t, "each version's next", h, edge(1, 2, ww, "x"), edge(2, 4, ww, "x"), edge(2, 4, ww, "y"), edge(4, 0, ww, "x"))
}

// However many operations give an edge, it comes once.
func TestSameEdges(t *testing.T) {
	h := history(first(),
		txn(2, 7, r("x", 0, 1), r("x", 0, 1), s("", "", ver("x", 0, 1), ver("y", 0, 1)), s("x", "y", ver("x", 0, 1)), r("x", 0, 1), s("z", ""), s("", "")),
		txn(3, 4, w("x"), d("z"), w("x"), w("z")))
	h.Txns[1].Ops[6].Seen = []api.Ver{ver("x", 0, 1), ver("y", 0, 1)}
	edges(t, "many times", h, edge(0, 1, wr, "x"), edge(0, 1, wr, "y"), edge(0, 1, wrp, "x"), edge(0, 1, wrp, "y"), edge(0, 2, ww, "x"), edge(1, 2, rw, "x"), edge(1, 2, rwp, "z"))
}

// By From, then To, then Kind, then Key.
func TestEdgesAreSorted(t *testing.T) {
	h := history(
		txn(0, 1, w("b"), w("a")),
		txn(2, 9, r("b", 0, 1), r("a", 0, 1), s("a", "", ver("a", 0, 1), ver("b", 0, 1)), w("c"), w("b")),
		txn(2, 8, s("c", ""), w("a"), r("b", 0, 1)))
	edges(t, "sorted", h,
		edge(0, 1, ww, "b"), edge(0, 1, wr, "a"), edge(0, 1, wr, "b"), edge(0, 1, wrp, "a"), edge(0, 1, wrp, "b"),
		edge(0, 2, ww, "a"), edge(0, 2, wr, "b"), edge(1, 2, rw, "a"), edge(2, 1, rw, "b"), edge(2, 1, rwp, "c"))
}

func TestEdgesOfVersionsNotInstalled(t *testing.T) {
	half := txn(2, 3, w("x"), w("x"))
	h := history(first(), half, txn(4, 5, r("x", 1, 1)), txn(6, 7, w("x")))
	edges(t, "a read of one that is not the last", h, edge(0, 1, ww, "x"), edge(1, 2, wr, "x"), edge(1, 3, ww, "x"))
	h.Txns[2] = txn(4, 5, s("x", "y", ver("x", 1, 1)))
	edges(t, "a scan of one that is not the last", h, edge(0, 1, ww, "x"), edge(1, 2, wr, "x"), edge(1, 3, ww, "x"))
	h.Txns[2] = txn(4, 5, s("x", "y", ver("x", 1, 2)))
	edges(t, "a scan of the last", h, edge(0, 1, ww, "x"), edge(0, 2, wrp, "x"), edge(1, 2, wr, "x"), edge(1, 3, ww, "x"), edge(2, 3, rw, "x"))
	for _, fate := range []api.Fate{api.FOpen, api.FAborted} {
		h.Txns[1].Fate = fate
		edges(t, "a scan of one that is not committed", h, edge(0, 3, ww, "x"))
		h.Txns[2] = txn(4, 5, r("x", 1, 2))
		edges(t, "a read of one that is not committed", h, edge(0, 3, ww, "x"))
	}
	h = history(first(), txn(2, 3, w("x"), d("x")), txn(4, 5, s("x", "y", ver("x", 1, 1))), txn(6, 7, w("x")))
	edges(t, "a scan of one that is deleted", h, edge(0, 1, ww, "x"), edge(1, 2, wr, "x"), edge(1, 3, ww, "x"))
	h.Txns[2] = txn(4, 5, s("x", "y"))
	edges(t, "a scan that does not tell it", h, edge(0, 1, ww, "x"), edge(1, 2, wrp, "x"), edge(1, 3, ww, "x"), edge(2, 3, rwp, "x"))
}

// Who has not committed gives no edges.
func TestEdgesOfTheOthers(t *testing.T) {
	for _, fate := range []api.Fate{api.FOpen, api.FAborted} {
		h := history(first(), fated(fate, txn(2, 3, r("x", 0, 1), s("", ""), w("x"), w("u"))), txn(4, 5, w("x"), w("u")))
		edges(t, "not committed", h, edge(0, 2, ww, "x"))
		h.Txns[2].Fate = fate
		edges(t, "only one has committed", h)
	}
}

// tower: y is deleted, comes back, is written over, is deleted twice and comes back, by 1 to 6; x is deleted, though it was never there, and comes at last.
func tower(ops ...api.HOp) api.History {
	return history(txn(50, 60, ops...),
		txn(0, 1, w("y"), d("x")),
		txn(10, 11, d("y"), d("x")),
		txn(20, 21, w("y")),
		txn(30, 31, w("y")),
		txn(40, 41, d("y"), w("x")),
		txn(70, 71, d("y")),
		txn(80, 81, w("y"), d("x")))
}

func towers(more ...api.Edge) []api.Edge {
	list := []api.Edge{
		edge(1, 2, ww, "x"), edge(1, 2, ww, "y"), edge(2, 3, ww, "y"), edge(2, 5, ww, "x"), edge(3, 4, ww, "y"), edge(4, 5, ww, "y"), edge(5, 6, ww, "y"), edge(5, 7, ww, "x"), edge(6, 7, ww, "y")}
	return append(list, more...)
}

func holds(t *testing.T, what string, h api.History, more ...api.Edge) {
	t.Helper()
	got, e := adya.Edges(h)
	right := towers(more...)
	for _, x := range right {
		n := 0
		for _, y := range got {
			if x == y {
				n++
			}
		}
		if n != 1 {
			t.Errorf("P14.3: %s: %+v is there %d times", what, x, n)
		}
	}
	want(t, "P14.3: "+what, []any{len(got), e}, []any{len(right), api.OK})
}

// The last that changes the key, up to the chosen version; the first that changes it behind.
func TestEdgesOfScans(t *testing.T) {
	holds(t, "behind all", tower(s("y", ""), s("x", "y", ver("x", 5, 1))), edge(5, 0, wrp, "y"), edge(0, 7, rwp, "y"), edge(5, 0, wr, "x"), edge(0, 7, rw, "x"), edge(5, 0, wrp, "x"), edge(0, 7, rwp, "x"))
	for _, c := range []struct {
		at    uint64
		told  []api.Ver
		right []api.Edge
	}{
		{0, nil, []api.Edge{edge(0, 1, rwp, "y"), edge(0, 5, rwp, "x")}},
		{1, []api.Ver{ver("y", 1, 1)}, []api.Edge{edge(1, 0, wr, "y"), edge(0, 2, rw, "y"), edge(1, 0, wrp, "y"), edge(0, 2, rwp, "y"), edge(0, 5, rwp, "x")}},
		{10, []api.Ver{ver("y", 1, 1)}, []api.Edge{edge(1, 0, wr, "y"), edge(0, 2, rw, "y"), edge(1, 0, wrp, "y"), edge(0, 2, rwp, "y"), edge(0, 5, rwp, "x")}},
		{11, nil, []api.Edge{edge(2, 0, wrp, "y"), edge(0, 3, rwp, "y"), edge(0, 5, rwp, "x")}},
		{20, nil, []api.Edge{edge(2, 0, wrp, "y"), edge(0, 3, rwp, "y"), edge(0, 5, rwp, "x")}},
		{21, []api.Ver{ver("y", 3, 1)}, []api.Edge{edge(3, 0, wr, "y"), edge(0, 4, rw, "y"), edge(3, 0, wrp, "y"), edge(0, 5, rwp, "y"), edge(0, 5, rwp, "x")}},
		{31, []api.Ver{ver("y", 4, 1)}, []api.Edge{edge(4, 0, wr, "y"), edge(0, 5, rw, "y"), edge(3, 0, wrp, "y"), edge(0, 5, rwp, "y"), edge(0, 5, rwp, "x")}},
		// told another one than stood there at that time: the chosen one is the one that was told
		{31, []api.Ver{ver("y", 1, 1)}, []api.Edge{edge(1, 0, wr, "y"), edge(0, 2, rw, "y"), edge(1, 0, wrp, "y"), edge(0, 2, rwp, "y"), edge(0, 5, rwp, "x")}},
		{0, []api.Ver{ver("y", 4, 1)}, []api.Edge{edge(4, 0, wr, "y"), edge(0, 5, rw, "y"), edge(3, 0, wrp, "y"), edge(0, 5, rwp, "y"), edge(0, 5, rwp, "x")}},
	} {
		h := tower(at(s("", "", c.told...), c.at))
		h.Txns[0].Begin = 0
		checks(t, "a scan", h, api.OK, 0, 0)
		holds(t, "a scan at some time", h, c.right...)
	}
}

func TestScansOfRanges(t *testing.T) {
	holds(t, "up to a key", tower(s("", "x")))
	holds(t, "behind all keys", tower(s("y\x00", "")))
	holds(t, "no range", tower(s("y", "x")))
	holds(t, "no range", tower(s("y", "y")))
	y := []api.Edge{edge(5, 0, wrp, "y"), edge(0, 7, rwp, "y")}
	holds(t, "one key", tower(s("y", "y\x00")), y...)
	holds(t, "from behind a key on", tower(s("x\x00", "z")), y...)
	holds(t, "two scans", tower(s("y", "yy"), s("x\x00", "")), y...)
}

// Of a key that the transaction has written ahead of the scan there is no chosen version; it may write it behind.
func TestScansOfOwnKeys(t *testing.T) {
	h := history(txn(0, 1, d("y")), txn(2, 3, w("y"), s("y", "", ver("y", 1, 1)), d("y"), s("", "")), txn(4, 5, w("y")))
	edges(t, "ahead", h, edge(0, 1, ww, "y"), edge(1, 2, ww, "y"))
	h.Txns[1] = txn(2, 3, s("y", ""), w("y"), s("y", "", ver("y", 1, 1)), d("y"))
	edges(t, "behind", h, edge(0, 1, ww, "y"), edge(1, 2, ww, "y"), edge(1, 2, rwp, "y"))
}

func TestOwnVersions(t *testing.T) {
	h := history(first(), txn(2, 5, d("y"), s("y", "z")), txn(6, 7, w("y")))
	edges(t, "its own, ahead", h, edge(0, 1, ww, "y"), edge(1, 2, ww, "y"))
	h = history(first(), txn(2, 5, s("y", "z", ver("y", 0, 1)), d("y")), txn(6, 7, w("y")))
	edges(t, "its own is the next, and the first that changes", h, edge(0, 1, ww, "y"), edge(0, 1, wr, "y"), edge(0, 1, wrp, "y"), edge(1, 2, ww, "y"))
	h = history(first(), txn(2, 5, s("y", "z", ver("y", 0, 1)), w("y")), txn(6, 7, d("y")))
	edges(t, "its own is the next, and changes nothing", h, edge(0, 1, ww, "y"), edge(0, 1, wr, "y"), edge(0, 1, wrp, "y"), edge(1, 2, ww, "y"), edge(1, 2, rwp, "y"))
	h = history(first(), txn(2, 5, at(s("u", "v"), 5), w("u")), txn(6, 7, w("u")), txn(8, 9, d("u")))
	edges(t, "its own is the first that changes: no later one is", h, edge(1, 2, ww, "u"), edge(2, 3, ww, "u"))
	// told what comes behind its own: the last that changes the key up to it is its own
	h = history(txn(2, 5, s("u", "v", ver("u", 1, 1)), w("u")), txn(6, 7, w("u")))
	edges(t, "its own is the last that changes", h, edge(0, 1, ww, "u"), edge(1, 0, wr, "u"))
	h = history(txn(2, 5, s("u", "v", ver("u", 1, 1)), d("u")), txn(6, 7, w("u")))
	edges(t, "its own changes nothing", h, edge(0, 1, ww, "u"), edge(1, 0, wr, "u"), edge(1, 0, wrp, "u"))
	h = history(first(), txn(2, 3, r("y", 0, 1), w("y"), r("y", 1, 1), w("y")))
	edges(t, "reads of its own", h, edge(0, 1, ww, "y"), edge(0, 1, wr, "y"))
}

// A scan that looks at its end does not look at what it installs there itself.
func TestOwnVersionAtTheEnd(t *testing.T) {
	h := history(txn(0, 1, w("u"), d("u")), txn(2, 5, at(s("u", "v"), 5), w("u")), txn(3, 4, w("u"), d("u")))
	edges(t, "at the end", h, edge(0, 2, ww, "u"), edge(2, 1, ww, "u"))
	h.Txns[2].Ops = h.Txns[2].Ops[:1]
	checks(t, "at the end", h, api.ErrHistory, 1, 0)
}

// Two scans of one transaction may be told otherwise.
func TestScansThatDiffer(t *testing.T) {
	h := history(first(), txn(2, 7, s("x", "y", ver("x", 0, 1)), at(s("x", "y"), 5)), txn(3, 4, d("x")))
	edges(t, "told, then not", h, edge(0, 1, wr, "x"), edge(0, 1, wrp, "x"), edge(0, 2, ww, "x"), edge(1, 2, rw, "x"), edge(1, 2, rwp, "x"), edge(2, 1, wrp, "x"))
}
