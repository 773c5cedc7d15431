package engine_test

import (
	"fmt"
	"testing"

	"strata/api"
)

func ver(key string, from, nth int) api.Ver { return api.Ver{Key: key, From: from, Nth: nth} }

func readOf(v api.Ver, value string, at uint64) api.HOp {
	return api.HOp{Kind: api.ORead, Ver: v, Value: value, At: at}
}

func writeOf(key, value string) api.HOp {
	return api.HOp{Kind: api.OWrite, Ver: api.Ver{Key: key}, Value: value}
}

func deadOf(key string) api.HOp {
	return api.HOp{Kind: api.OWrite, Ver: api.Ver{Key: key}, Dead: true}
}

func scanOf(low, high string, at uint64, seen ...api.Ver) api.HOp {
	return api.HOp{Kind: api.OScan, Ver: api.Ver{Key: low}, Hi: high, Seen: seen, At: at}
}

func TestHistoryOfTheLoad(t *testing.T) {
	w := open(t, roomy(), row("a", "1", 3), row("b", "2", 7))
	want(t, "P10.14: the load", w.History().Txns, []api.HTxn{{Iso: full, Fate: api.FCommitted, Begin: 10, End: 10, Ops: []api.HOp{writeOf("a", "1"), writeOf("b", "2")}}})
	w.do(0, begin(si))
	want(t, "P10.14: it stands ahead", len(w.History().Txns), 2)
	none := open(t, roomy())
	none.do(0, begin(si))
	want(t, "P10.14: without rows there is none", none.History().Txns, []api.HTxn{{Iso: si, Begin: 11, BeginIn: 1, BeginOut: 2}})
}

func TestHistoryOfOperations(t *testing.T) {
	w := open(t, roomy(), row("a", "1", 3))
	w.do(0, begin(full))
	steps := []struct {
		call api.Call
		code api.Errno
		ops  []api.HOp
	}{
		{get("a"), api.OK, []api.HOp{readOf(ver("a", 0, 1), "1", 11)}},
		{get("b"), api.ErrNotFound, []api.HOp{scanOf("b", "b\x00", 11)}},
		{update("b", "x"), api.ErrNotFound, []api.HOp{scanOf("b", "b\x00", 11)}},
		{remove("b"), api.ErrNotFound, []api.HOp{scanOf("b", "b\x00", 11)}},
		{insert("b", "2"), api.OK, []api.HOp{writeOf("b", "2")}},
		{insert("b", "x"), api.ErrDuplicate, []api.HOp{readOf(ver("b", 1, 1), "2", 11)}},
		{insert("a", "x"), api.ErrDuplicate, []api.HOp{readOf(ver("a", 0, 1), "1", 11)}},
		{update("b", "3"), api.OK, []api.HOp{readOf(ver("b", 1, 1), "2", 11), writeOf("b", "3")}},
		{remove("b"), api.OK, []api.HOp{readOf(ver("b", 1, 2), "3", 11), deadOf("b")}},
		{insert("b", "4"), api.OK, []api.HOp{writeOf("b", "4")}},
		{get("b"), api.OK, []api.HOp{readOf(ver("b", 1, 4), "4", 11)}},
		{update("a", ""), api.OK, []api.HOp{readOf(ver("a", 0, 1), "1", 11), writeOf("a", "")}},
		{scan("", ""), api.OK, []api.HOp{scanOf("", "", 11, ver("a", 1, 1), ver("b", 1, 4))}},
		{scan("b", "c"), api.OK, []api.HOp{scanOf("b", "c", 11, ver("b", 1, 4))}},
		{scan("c", ""), api.OK, []api.HOp{scanOf("c", "", 11)}},
		{collect(1), api.OK, nil},
	}
	var all []api.HOp
	for _, s := range steps {
		w.code("P10.14", 0, s.call, s.code)
		all = append(all, s.ops...)
		want(t, fmt.Sprintf("P10.14: behind %+v", s.call), w.History().Txns[1].Ops, all)
	}
	w.do(0, commit())
	h := w.History().Txns[1]
	want(t, "P10.14: behind a commit", []any{h.Ops, h.Iso, h.Fate, h.Begin, h.End}, []any{all, full, api.FCommitted, 11, 13})
	// the next one reads what this one has left
	w.do(1, begin(rc), scan("", ""))
	_, op := w.last(2)
	want(t, "P10.14: as another one sees it", op, scanOf("", "", 14, ver("a", 1, 1), ver("b", 1, 4)))
}

func TestHistoryOfFates(t *testing.T) {
	w := open(t, roomy(), row("z", "0", 1))
	place := func() [8]int {
		x := w.History().Txns[1]
		return [8]int{int(x.Fate), int(x.Begin), int(x.End), x.BeginIn, x.BeginOut, x.EndIn, x.EndOut, x.Iso}
	}
	w.start(0, begin(rr)) // event 1
	for w.Busy(0) {
		want(t, "P10.14: a begin that is not done is none", len(w.History().Txns), 1)
		w.step(0)
	}
	want(t, "P10.14: a begin that is done", place(), [8]int{0, 11, 0, 1, 2, 0, 0, rr})
	w.take(0)
	w.do(0, insert("a", "1")) // 3, 4
	w.start(1, begin(si))     // 5
	w.start(0, commit())      // 6
	w.Start(0, commit())      // none: it is refused
	w.Start(2, get("a"))      // none
	w.rest(1)                 // 7
	want(t, "P10.14: the next one", []int{w.History().Txns[2].BeginIn, w.History().Txns[2].BeginOut}, []int{5, 7})
	moved := false
	for w.Busy(0) {
		right := [8]int{0, 11, 0, 1, 2, 0, 0, rr}
		if moved {
			right = [8]int{int(api.FCommitted), 11, 13, 1, 2, 6, 0, rr}
		}
		want(t, "P10.14: in the midst of a commit", place(), right)
		w.step(0)
		state, _, _ := w.Base().Tx.Look(1)
		moved = moved || state == api.TxCommitted
	}
	want(t, "P10.14: behind a commit", place(), [8]int{int(api.FCommitted), 11, 13, 1, 2, 6, 8, rr})
	w.take(0)
	w.take(1)
	want(t, "P10.14: behind a commit that was taken", place(), [8]int{int(api.FCommitted), 11, 13, 1, 2, 6, 8, rr})
}

func TestHistoryOfAborts(t *testing.T) {
	w := open(t, roomy(), row("z", "0", 1))
	w.do(0, begin(si))           // 1, 2
	w.do(1, begin(full))         // 3, 4
	w.do(1, update("z", "1"))    // 5, 6
	w.start(0, update("z", "2")) // 7
	moved := false
	for w.Busy(0) {
		x := w.History().Txns[1]
		want(t, "P10.14: in the midst of the end", []any{x.Fate, x.End, x.EndIn, x.EndOut}, map[bool][]any{false: {api.FOpen, 0, 0, 0}, true: {api.FAborted, 0, 7, 0}}[moved])
		w.step(0)
		state, _, _ := w.Base().Tx.Look(1)
		moved = moved || state == api.TxAborted
	}
	x := w.History().Txns[1]
	want(t, "P10.14: a conflict", []any{x.Fate, x.End, x.EndIn, x.EndOut, x.Ops}, []any{api.FAborted, 0, 7, 8, []api.HOp{readOf(ver("z", 0, 1), "0", 11)}})
	w.take(0)
	w.do(1, abort()) // 9, 10
	x = w.History().Txns[2]
	want(t, "P10.14: an abort", []any{x.Fate, x.End, x.EndIn, x.EndOut, len(x.Ops)}, []any{api.FAborted, 0, 9, 10, 2})
}

// A begin that was refused is no transaction; its events count.
func TestHistoryOfRefusedBegins(t *testing.T) {
	c := size()
	c.TxSlots = 1
	w := open(t, c)
	w.do(0, begin(si))
	w.code("P10.7", 1, begin(si), api.ErrTxFull)
	w.do(0, commit())
	w.do(1, begin(rc))
	h := w.History().Txns
	want(t, "P10.14: two", []any{len(h), h[0].EndIn, h[0].EndOut, h[1].BeginIn, h[1].BeginOut}, []any{2, 5, 6, 7, 8})
}

// The order is that of the steps with which the begins were done.
func TestHistoryByTheEndsOfBegins(t *testing.T) {
	w := open(t, roomy())
	w.start(0, begin(si))
	w.steps(0, 4)
	w.start(1, begin(rr))
	w.rest(1)
	w.rest(0)
	h := w.History().Txns
	want(t, "P10.14: the order", []any{h[0].Iso, h[0].Begin, h[0].BeginIn, h[0].BeginOut, h[1].Iso, h[1].Begin, h[1].BeginIn, h[1].BeginOut}, []any{rr, 12, 2, 3, si, 11, 1, 4})
}

// Slots that come again are other versions: whose they are is told anew.
func TestHistoryOfSlotsThatComeAgain(t *testing.T) {
	w := open(t, api.Config{Slots: 2, Buckets: 1, TxSlots: 4, Sessions: 1}, row("a", "0", 0))
	for i := 1; i <= 6; i++ {
		w.do(0, begin(si), update("a", fmt.Sprint(i)), commit())
		w.do(0, collect(1), collect(1))
		w.do(0, begin(si), get("a"))
		_, op := w.last(2 * i)
		want(t, "P10.14: whose it is", []any{op.Ver, op.Value}, []any{ver("a", 2*i-1, 1), fmt.Sprint(i)})
		w.do(0, commit())
	}
}

func TestHistoryIsNew(t *testing.T) {
	w := open(t, roomy(), row("a", "0", 0), row("b", "0", 0))
	w.do(0, begin(si), scan("", ""), get("a"))
	text := fmt.Sprintf("%+v", w.History())
	h := w.History()
	h.Txns[1].Ops[0].Seen[0].Key = "changed"
	_ = append(h.Txns[1].Ops[0].Seen[:1], ver("changed", 9, 9))
	h.Txns[1].Ops[1].Value = "changed"
	_ = append(h.Txns[1].Ops[:1], deadOf("changed"))
	h.Txns[0].Iso = 99
	_ = append(h.Txns[:1], api.HTxn{Iso: 99})
	want(t, "P0.1: the lists are new", fmt.Sprintf("%+v", w.History()), text)
	h = w.History()
	w.do(0, insert("c", "1"), commit())
	want(t, "P0.1: what was told does not change", fmt.Sprintf("%+v", h), text)
	_ = append(h.Txns, api.HTxn{Iso: 98})
	_ = append(h.Txns[1].Ops, deadOf("changed"))
	w.do(0, begin(rr))
	want(t, "P0.1: nor what is told later", []any{w.History().Txns[2].Iso, w.History().Txns[1].Ops[2]}, []any{rr, writeOf("c", "1")})
}
