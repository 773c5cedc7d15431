package adya_test

import (
	"fmt"
	"testing"

	"strata/adya"
	"strata/api"
)

// base is a history whose transaction 2 has an operation of each kind: 0 a write, 1 a read of it, 2 a read of another's, 3 a scan, 4 a scan that tells nothing.
func base() api.History {
	return history(
		txn(0, 1, w("x"), w("y"), d("y"), w("z"), w("z")),
		txn(2, 3, w("u"), d("u"), w("x")),
		txn(4, 7, w("x"), r("x", 2, 1), r("z", 0, 2), s("x", "", ver("x", 2, 1), ver("z", 0, 2)), s("u", "v")),
		txn(5, 6, w("t"), w("k")))
}

// turned gives it another fate of transaction 2, and changes that.
func turned(fate api.Fate, change func(x *api.HTxn)) api.History {
	h := base()
	h.Txns[2].Fate = fate
	change(&h.Txns[2])
	return h
}

// What is wrong with a transaction, or with an operation of it: of each fate.
func TestFaults(t *testing.T) {
	const bad, big, fine = api.ErrHistory, api.ErrBig, api.OK
	cases := []struct {
		what      string
		change    func(x *api.HTxn)
		op        int
		committed api.Errno
		others    api.Errno
	}{
		{"nothing", func(x *api.HTxn) {}, 0, fine, fine},
		{"257 operations", func(x *api.HTxn) { x.Ops = make([]api.HOp, 257) }, 0, big, big},
		{"256 of no kind", func(x *api.HTxn) { x.Ops = make([]api.HOp, 256) }, 0, bad, bad},
		{"no level", func(x *api.HTxn) { x.Iso = 0 }, 0, bad, bad},
		{"a level too many", func(x *api.HTxn) { x.Iso = 5 }, 0, bad, bad},
		{"the least level", func(x *api.HTxn) { x.Iso = 1 }, 0, fine, fine},
		{"the highest level", func(x *api.HTxn) { x.Iso = 4 }, 0, fine, fine},
		{"a begin above MaxTime", func(x *api.HTxn) { x.Begin = api.MaxTime + 1 }, 0, bad, bad},
		{"an end above MaxTime", func(x *api.HTxn) { x.End = api.MaxTime + 1 }, 0, bad, bad},
		{"an end at MaxTime", func(x *api.HTxn) { x.End = api.MaxTime }, 0, fine, fine},
		{"an end below the begin", func(x *api.HTxn) { x.End = 3 }, 0, bad, fine},
		{"an end that another one has", func(x *api.HTxn) { x.Begin, x.End, x.Ops = 0, 3, nil }, 0, bad, fine},
		{"a begin at its end", func(x *api.HTxn) { x.Begin, x.Ops = 7, nil }, 0, fine, fine},
		{"a place below 0", func(x *api.HTxn) { x.BeginIn = -1 }, 0, bad, bad},
		{"a place below 0", func(x *api.HTxn) { x.BeginOut = -1 }, 0, bad, bad},
		{"a place below 0", func(x *api.HTxn) { x.EndIn = -1 }, 0, bad, bad},
		{"a place below 0", func(x *api.HTxn) { x.EndOut = -1 }, 0, bad, bad},
		{"a place above MaxPlace", func(x *api.HTxn) { x.BeginIn = api.MaxPlace + 1 }, 0, bad, bad},
		{"a place above MaxPlace", func(x *api.HTxn) { x.BeginOut = api.MaxPlace + 1 }, 0, bad, bad},
		{"a place above MaxPlace", func(x *api.HTxn) { x.EndIn = api.MaxPlace + 1 }, 0, bad, bad},
		{"a place above MaxPlace", func(x *api.HTxn) { x.EndOut = api.MaxPlace + 1 }, 0, bad, bad},
		{"places at MaxPlace", func(x *api.HTxn) {
			x.BeginIn, x.BeginOut, x.EndIn, x.EndOut = api.MaxPlace, api.MaxPlace, api.MaxPlace, api.MaxPlace
		}, 0, fine, fine},
		{"places 0", func(x *api.HTxn) { x.BeginIn, x.BeginOut, x.EndIn, x.EndOut = 0, 0, 0, 0 }, 0, fine, fine},
		{"a begin answered ahead of its call", func(x *api.HTxn) { x.BeginIn = 10 }, 0, bad, fine},
		{"a begin answered behind the last call", func(x *api.HTxn) { x.BeginOut = 15 }, 0, bad, fine},
		{"a begin answered at the last call", func(x *api.HTxn) { x.BeginOut = 14 }, 0, fine, fine},
		{"a last call answered ahead of it", func(x *api.HTxn) { x.EndOut = 13 }, 0, bad, fine},
		{"a last call answered at once", func(x *api.HTxn) { x.EndOut = 14 }, 0, fine, fine},
		{"a last call that was not answered", func(x *api.HTxn) { x.EndOut = 0 }, 0, fine, fine},
		{"no kind", func(x *api.HTxn) { x.Ops[0].Kind = 0 }, 0, bad, bad},
		{"no kind", func(x *api.HTxn) { x.Ops[4].Kind = 4 }, 4, bad, bad},
		{"no kind", func(x *api.HTxn) { x.Ops[4].Kind = -1 }, 4, bad, bad},
		{"a read above MaxTime", func(x *api.HTxn) { x.End = api.MaxTime; x.Ops[2].At = api.MaxTime + 1 }, 2, bad, bad},
		{"a scan above MaxTime", func(x *api.HTxn) { x.Ops[4].At = api.MaxTime + 1 }, 4, bad, bad},
		{"a read ahead of the begin", func(x *api.HTxn) { x.Ops[2].At = 3 }, 2, bad, fine},
		{"a read behind the end", func(x *api.HTxn) { x.Ops[2].At = 8 }, 2, bad, fine},
		{"a read at the end", func(x *api.HTxn) { x.Ops[2].At = 7 }, 2, fine, fine},
		{"a scan ahead of the begin", func(x *api.HTxn) { x.Ops[4].At = 3 }, 4, bad, fine},
		{"a scan behind the end", func(x *api.HTxn) { x.Ops[4].At = 8 }, 4, bad, fine},
		{"a scan at the end", func(x *api.HTxn) { x.Ops[4].At = 7 }, 4, fine, fine},
		{"a write at any time", func(x *api.HTxn) { x.Ops[0].At = 1<<64 - 1 }, 0, fine, fine},
		{"a version of nobody", func(x *api.HTxn) { x.Ops[2].Ver.From = -1 }, 2, bad, bad},
		{"a version of nobody", func(x *api.HTxn) { x.Ops[2].Ver.From = 4 }, 2, bad, bad},
		{"a version too many", func(x *api.HTxn) { x.Ops[2].Ver.Nth = 3 }, 2, bad, bad},
		{"a version too few", func(x *api.HTxn) { x.Ops[2].Ver.Nth = 0 }, 2, bad, bad},
		{"a version too few", func(x *api.HTxn) { x.Ops[2].Ver.Nth = -1 }, 2, bad, bad},
		{"a version that is not the last", func(x *api.HTxn) { x.Ops[2].Ver.Nth = 1 }, 2, fine, fine},
		{"a dead version", func(x *api.HTxn) { x.Ops[2] = r("y", 0, 2); x.Ops[2].At = 4 }, 2, bad, bad},
		{"the one ahead of a dead version", func(x *api.HTxn) { x.Ops[2] = r("y", 0, 1); x.Ops[2].At = 4 }, 2, fine, fine},
		{"a version of a later one", func(x *api.HTxn) { x.Ops[2] = r("t", 3, 1); x.Ops[2].At = 4 }, 2, fine, fine},
		{"another value", func(x *api.HTxn) { x.Ops[2].Value = "other" }, 2, bad, bad},
		{"another's, where it has written itself", func(x *api.HTxn) { x.Ops[1].Ver.From = 0 }, 1, bad, fine},
		{"its own ahead of its write", func(x *api.HTxn) { x.Ops[0], x.Ops[1] = x.Ops[1], x.Ops[0] }, 0, bad, fine},
		{"its own, not the last", func(x *api.HTxn) { x.Ops = append([]api.HOp{w("x")}, x.Ops[:2]...) }, 2, bad, fine},
		{"its own, the last", func(x *api.HTxn) { x.Ops = append([]api.HOp{w("x")}, x.Ops[:2]...); x.Ops[2].Ver.Nth = 2 }, 2, fine, fine},
		{"its own, a later one", func(x *api.HTxn) { x.Ops[1].Ver.Nth = 2; x.Ops = append(x.Ops, w("x")) }, 1, bad, fine},
		{"a dead one of its own", func(x *api.HTxn) { x.Ops[0] = d("x") }, 1, bad, bad},
		{"a scan's version of nobody", func(x *api.HTxn) { x.Ops[3].Seen[1].From = 9 }, 3, bad, bad},
		{"a scan's dead version", func(x *api.HTxn) {
			x.Ops[3].Seen = []api.Ver{ver("x", 2, 1), ver("y", 0, 2), ver("z", 0, 2)}
		}, 3, bad, bad},
		{"a scan's version that is not the last", func(x *api.HTxn) {
			x.Ops[3].Seen = []api.Ver{ver("x", 2, 1), ver("y", 0, 1), ver("z", 0, 1)}
		}, 3, fine, fine},
		{"a scan's version that is not its own", func(x *api.HTxn) { x.Ops[3].Seen[0].From = 1 }, 3, bad, fine},
		{"a key below the range", func(x *api.HTxn) { x.Ops[3].Ver.Key = "x\x00" }, 3, bad, bad},
		{"a key at the range's end", func(x *api.HTxn) { x.Ops[3].Hi = "z" }, 3, bad, bad},
		{"a key just in the range", func(x *api.HTxn) { x.Ops[3].Hi = "z\x00" }, 3, fine, fine},
		{"a range that is empty", func(x *api.HTxn) { x.Ops[4].Ver.Key, x.Ops[4].Hi = "z", "a" }, 4, fine, fine},
		{"a range that is empty, and a key", func(x *api.HTxn) { x.Ops[3].Hi = "x" }, 3, bad, bad},
		{"keys that fall", func(x *api.HTxn) { x.Ops[3].Seen = []api.Ver{ver("z", 0, 2), ver("x", 2, 1)} }, 3, bad, bad},
		{"a key twice", func(x *api.HTxn) {
			x.Ops[3].Seen = []api.Ver{ver("x", 2, 1), ver("z", 0, 2), ver("z", 0, 2)}
		}, 3, bad, fine},
		{"two versions of a key", func(x *api.HTxn) {
			x.Ops[3].Seen = []api.Ver{ver("x", 2, 1), ver("z", 0, 1), ver("z", 0, 2)}
		}, 3, bad, fine},
		{"its own key that is not told", func(x *api.HTxn) { x.Ops[3].Seen = x.Ops[3].Seen[1:] }, 3, bad, fine},
		{"another's key that is not told", func(x *api.HTxn) { x.Ops[3].Seen = x.Ops[3].Seen[:1] }, 3, bad, fine},
		{"its own key, deleted again, and not told", func(x *api.HTxn) {
			x.Ops = append(x.Ops[:1:1], d("x"), x.Ops[3])
			x.Ops[2].Seen = x.Ops[2].Seen[1:]
		}, 2, fine, fine},
		{"another's key that it has deleted", func(x *api.HTxn) {
			x.Ops = append([]api.HOp{d("z")}, x.Ops[:2]...)
			x.Ops = append(x.Ops, s("x", ""))
			x.Ops[3].Seen, x.Ops[3].At = []api.Ver{ver("x", 2, 1)}, 4
		}, 3, fine, fine},
		{"a key that it writes later alone", func(x *api.HTxn) { x.Ops = []api.HOp{s("a", "b"), w("a")}; x.Ops[0].At = 7 }, 0, fine, fine},
		{"a key that ended behind the look", func(x *api.HTxn) { x.Ops[4].Ver.Key, x.Ops[4].Hi, x.Ops[4].At = "t", "tt", 5 }, 4, fine, fine},
		{"a key that ended at the look", func(x *api.HTxn) { x.Ops[4].Ver.Key, x.Ops[4].Hi, x.Ops[4].At = "t", "tt", 6 }, 4, bad, fine},
		{"257 versions", func(x *api.HTxn) { x.Ops[4].Seen = make([]api.Ver, 257) }, 4, big, big},
		{"a read's range", func(x *api.HTxn) { x.Ops[2].Seen, x.Ops[2].Hi, x.Ops[2].Dead = make([]api.Ver, 257), "a", true }, 0, fine, fine},
		{"a write's range", func(x *api.HTxn) {
			x.Ops[0].Seen, x.Ops[0].Hi, x.Ops[0].Ver.From, x.Ops[0].Ver.Nth = make([]api.Ver, 257), "a", -7, 1000
		}, 0, fine, fine},
		{"a scan's value", func(x *api.HTxn) {
			x.Ops[3].Value, x.Ops[3].Dead, x.Ops[3].Ver.From, x.Ops[3].Ver.Nth = "?", true, -7, 1000
		}, 0, fine, fine},
	}
	for _, c := range cases {
		for fate, right := range map[api.Fate]api.Errno{api.FCommitted: c.committed, api.FOpen: c.others, api.FAborted: c.others} {
			x, o := 2, c.op
			if right == fine {
				x, o = 0, 0
			}
			checks(t, fmt.Sprint(c.what, ", fate ", fate), turned(fate, c.change), right, x, o)
		}
	}
	for _, fate := range []api.Fate{-1, 3, 1 << 40} {
		checks(t, "no fate", turned(fate, func(*api.HTxn) {}), bad, 2, 0)
	}
}

// A Begin at MaxTime may be, with an End and reads there.
func TestTheLastTime(t *testing.T) {
	h := history(txn(0, 1, w("x")), placed(txn(api.MaxTime, api.MaxTime, r("x", 0, 1), s("", "", ver("x", 0, 1)), w("x")), 4, 5, 6, 0))
	checks(t, "MaxTime", h, api.OK, 0, 0)
	edges(t, "MaxTime", h, edge(0, 1, api.EWW, "x"), edge(0, 1, api.EWR, "x"), edge(0, 1, api.EWRP, "x"))
	embeds(t, "MaxTime", h, api.OK, point(0, false, 0), point(0, true, 2), point(1, false, 4), point(1, true, 6))
}

// Equal Ends are refused at the later one; so what is ahead of it is looked at first, the last of both being the one that counts.
func TestEqualEnds(t *testing.T) {
	scanner := txn(4, 5, s("x", "y"))
	writer, killer := txn(1, 3, w("x")), txn(2, 3, d("x"))
	checks(t, "the later one is dead", history(scanner, writer, killer), api.ErrHistory, 2, 0)
	checks(t, "the later one is not", history(scanner, killer, writer), api.ErrHistory, 0, 0)
	checks(t, "ahead of it", history(killer, writer, scanner), api.ErrHistory, 1, 0)
	own := txn(2, 3, at(s("x", "y"), 3), w("x"))
	checks(t, "beside its own", history(own, killer), api.ErrHistory, 1, 0)
	checks(t, "beside its own", history(own, writer), api.ErrHistory, 0, 0)
	checks(t, "behind another's", history(txn(2, 5, at(s("x", "y"), 5)), writer, fated(api.FAborted, killer)), api.ErrHistory, 0, 0)
	checks(t, "one has not committed", history(writer, fated(api.FOpen, killer), fated(api.FAborted, killer)), api.OK, 0, 0)
	checks(t, "the first has not committed", history(fated(api.FOpen, killer), writer), api.OK, 0, 0)
}

// A version of a transaction that is faulty itself is told, if it is there: its own fault comes later.
func TestFaultsBehind(t *testing.T) {
	long := txn(2, 3)
	for range 300 {
		long.Ops = append(long.Ops, w("x"))
	}
	checks(t, "too long", history(txn(4, 5, r("x", 1, 300)), long), api.ErrBig, 1, 0)
	checks(t, "too long, and not there", history(txn(4, 5, r("x", 1, 301)), long), api.ErrHistory, 0, 0)
	checks(t, "of no fate", history(txn(4, 5, r("x", 1, 1)), fated(9, txn(2, 3, w("x")))), api.ErrHistory, 1, 0)
	checks(t, "of no fate: it installs nothing", history(txn(4, 5, s("", "")), fated(9, txn(2, 3, w("x")))), api.ErrHistory, 1, 0)
	late := txn(2, 3, w("x"))
	late.Iso = 0
	checks(t, "of no level: it installs", history(txn(4, 5, s("", "")), late), api.ErrHistory, 0, 0)
	strangeKind := txn(2, 3, w("x"), w("x"))
	strangeKind.Ops[0].Kind = 9
	checks(t, "what is no write does not count", history(txn(4, 5, r("x", 1, 1)), strangeKind), api.ErrHistory, 1, 0)
	checks(t, "what is no write does not count", history(txn(4, 5, r("x", 1, 2)), strangeKind), api.ErrHistory, 0, 0)
}

// The first fault is told: the first transaction's, its own ahead of its operations', of these the first one's.
func TestFirstFault(t *testing.T) {
	many := make([]api.Ver, 257)
	long := make([]api.HOp, 257)
	cases := []struct {
		what    string
		change  func(h *api.History)
		code    api.Errno
		txn, op int
	}{
		{"too many transactions", func(h *api.History) { h.Txns[0].Iso = 0; h.Txns = append(h.Txns, make([]api.HTxn, 253)...) }, api.ErrBig, 0, 0},
		{"just enough", func(h *api.History) { h.Txns = append(h.Txns, make([]api.HTxn, 252)...) }, api.ErrHistory, 4, 0},
		{"two transactions", func(h *api.History) { h.Txns[1].Iso, h.Txns[0].Ops[4].Kind = 0, 0 }, api.ErrHistory, 0, 4},
		{"two transactions", func(h *api.History) { h.Txns[3].Ops, h.Txns[2].Ops[4].Seen = long, many }, api.ErrBig, 2, 4},
		{"two transactions", func(h *api.History) { h.Txns[3].Iso, h.Txns[2].Ops = 0, long }, api.ErrBig, 2, 0},
		{"too long, and of no level", func(h *api.History) { h.Txns[2].Ops, h.Txns[2].Iso = long, 0 }, api.ErrBig, 2, 0},
		{"of no level, and an operation", func(h *api.History) { h.Txns[2].Ops[4].Seen, h.Txns[2].Iso = many, 0 }, api.ErrHistory, 2, 0},
		{"two operations", func(h *api.History) { h.Txns[2].Ops[3].Seen, h.Txns[2].Ops[4].Seen = nil, many }, api.ErrHistory, 2, 3},
		{"two operations", func(h *api.History) { h.Txns[2].Ops[3].Seen, h.Txns[2].Ops[4].Kind = many, 0 }, api.ErrBig, 2, 3},
		{"no kind, and too many versions", func(h *api.History) { h.Txns[2].Ops[3].Seen, h.Txns[2].Ops[3].Kind = many, 4 }, api.ErrHistory, 2, 3},
		{"a time, and too many versions", func(h *api.History) { h.Txns[2].Ops[3].Seen, h.Txns[2].Ops[3].At = many, 3 }, api.ErrHistory, 2, 3},
		{"a time above all, and too many versions", func(h *api.History) {
			h.Txns[2].Fate, h.Txns[2].Ops[3].Seen, h.Txns[2].Ops[3].At = api.FOpen, many, api.MaxTime+1
		}, api.ErrHistory, 2, 3},
		{"too many versions, and their keys", func(h *api.History) { h.Txns[2].Ops[3].Seen = append(h.Txns[2].Ops[3].Seen, many...) }, api.ErrBig, 2, 3},
	}
	for _, c := range cases {
		h := base()
		c.change(&h)
		checks(t, c.what, h, c.code, c.txn, c.op)
		if !refused(h, c.code) {
			t.Errorf("P14.1: %s: not all calls answer %d alone", c.what, c.code)
		}
	}
}

// What is as great as it may be, and one more.
func TestLimits(t *testing.T) {
	var l []api.HTxn
	for i := range uint64(256) {
		x := as(full, txn(2*i+1, 2*i+2))
		for o := range 256 {
			key := string([]byte{'k', byte(i), byte(o)})
			switch {
			case o%2 == 0:
				x.Ops = append(x.Ops, w(key))
			case i > 0:
				x.Ops = append(x.Ops, r(string([]byte{'k', byte(i - 1), byte(o - 1)}), int(i)-1, 1))
				x.Ops[o].At = x.Begin
			default:
				x.Ops = append(x.Ops, d("dead"))
			}
		}
		l = append(l, x)
	}
	h := history(l...)
	shows(t, "256 transactions of 256 operations", h)
	order, e := adya.Serial(h)
	same, f := adya.Replay(h, order...)
	want(t, "P14.12: the greatest", []any{len(order), order[0], order[255], e, same, f}, []any{256, 0, 255, api.OK, true, api.OK})
	points, e := adya.Embed(h)
	want(t, "P14.9: the greatest", []any{len(points), e}, []any{512, api.OK})
	_, e = adya.Search(h)
	want(t, "P14.10: the greatest", e, api.ErrBig)
	more := history(append(l, txn(1000, 1001))...)
	checks(t, "257 transactions", more, api.ErrBig, 0, 0)
	if !refused(more, api.ErrBig) {
		t.Errorf("P14.1: 257 transactions: not all calls answer ErrBig alone")
	}
	h.Txns[255].Ops = append(h.Txns[255].Ops, w("x"))
	checks(t, "257 operations", h, api.ErrBig, 255, 0)
}

func TestSeenLimits(t *testing.T) {
	one, two := txn(0, 1), txn(2, 3, w("z"))
	var seen []api.Ver
	for o := range 256 {
		key := string([]byte{'k', byte(o)})
		one.Ops = append(one.Ops, w(key))
		seen = append(seen, ver(key, 0, 1))
	}
	h := history(one, two, txn(4, 5, s("", "z", seen...)), txn(6, 7, s("", "", append(seen, ver("z", 1, 1))...)))
	checks(t, "257 versions", h, api.ErrBig, 3, 0)
	h.Txns = h.Txns[:3]
	checks(t, "256 versions", h, api.OK, 0, 0)
	list, _ := adya.Edges(h)
	want(t, "P14.3: 256 versions", len(list), 512)
	h.Txns[2].Ops[0].Seen = seen[:255]
	checks(t, "255 versions", h, api.ErrHistory, 2, 0)
}
