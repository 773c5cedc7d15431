package engine_test

import (
	"fmt"
	"testing"

	"strata/api"
	"strata/engine"
)

// quiet looks whether what is asked makes no access and changes nothing.
func (w *world) quiet(what string, ask func()) {
	w.t.Helper()
	old, inside := w.count(), dump(w.Engine)
	ask()
	if w.since(old) != "" || dump(w.Engine) != inside {
		w.t.Errorf("P10.5: %s makes the accesses %q", what, w.since(old))
	}
}

func TestLooksMakeNoAccess(t *testing.T) {
	w := open(t, roomy(), row("a", "1", 3))
	look := func() {
		w.quiet("Base", func() { w.Base() })
		w.quiet("Accesses", func() { w.Accesses() })
		w.quiet("Commits", func() { w.Commits(0) })
		w.quiet("Rows", func() { w.Rows() })
		w.quiet("Free", func() { w.Free() })
		w.quiet("Floor", func() { w.Floor() })
		w.quiet("History", func() { w.History() })
		w.quiet("Busy", func() { w.Busy(0) })
		w.quiet("Open", func() { w.Open(0) })
	}
	look()
	for _, c := range []api.Call{begin(full), get("a"), update("a", "2"), insert("b", "3"), insert("b", "4"), remove("b"), scan("", ""), commit(), collect(1), begin(rc), remove("a"), abort()} {
		w.start(0, c)
		for look(); w.Busy(0); look() {
			w.step(0)
		}
		w.take(0)
	}
}

func TestBase(t *testing.T) {
	w := open(t, roomy(), row("a", "1", 3))
	b := w.Base()
	want(t, "P10.5: Base", []any{b != nil, b == w.Base(), b.Hash.Buckets(), b.Tx.Places()}, []any{true, true, 1, 20})
	w.do(0, begin(rr))
	info, e := b.Tx.Info(1)
	want(t, "P10.7: the record", []any{info, e}, []any{api.TxInfo{Session: 0, Iso: rr}, api.OK})
	w.do(3, begin(rc))
	info, e = b.Tx.Info(2)
	want(t, "P10.7: the record", []any{info, e}, []any{api.TxInfo{Session: 3, Iso: rc}, api.OK})
}

func TestAccesses(t *testing.T) {
	w := open(t, roomy())
	w.do(0, begin(si), insert("a", "1"), commit())
	want(t, "P10.5: the entry into the log is an access", w.Accesses()-w.Base().Accesses(), 1)
	w.do(0, begin(si), update("a", "2"), commit())
	want(t, "P10.5: so is the next one", w.Accesses()-w.Base().Accesses(), 2)
	w.do(0, collect(1)) // a look at the empty limbo, an entry
	want(t, "P10.5: so are those of the sweeper", w.Accesses()-w.Base().Accesses(), 4)
	w.do(0, collect(1)) // two looks
	want(t, "P10.5: so are those of the sweeper", w.Accesses()-w.Base().Accesses(), 6)
}

func TestCommits(t *testing.T) {
	w := open(t, roomy(), row("z", "", 0))
	for i := range 5 {
		w.do(0, begin(si), insert(fmt.Sprint("k", i), fmt.Sprint(i)), commit())
	}
	all := w.Commits(0)
	want(t, "P10.5: all", len(all), 5)
	for i, c := range all {
		want(t, "P10.5: an entry", c, api.Commit{Stamp: uint64(12 + 2*i), Writes: []api.Write{{Kind: api.WritePut, Key: fmt.Sprint("k", i), Data: fmt.Sprint(i)}}})
	}
	for _, at := range strange() {
		right := all[min(max(at, 0), 5):]
		want(t, fmt.Sprintf("P10.5: Commits(%d)", at), w.Commits(at), right)
	}
	text := fmt.Sprint(all)
	one := w.Commits(1)
	one[0].Stamp, one[0].Writes[0].Key = 99, "changed"
	one = append(one[:1], api.Commit{Stamp: 98})
	one[0].Writes = append(one[0].Writes, api.Write{Key: "more"})
	want(t, "P0.1: the list is new", fmt.Sprint(w.Commits(0)), text)
}

// The entry is made at one step of the commit, ahead of the state.
func TestCommitsInTheMidst(t *testing.T) {
	w := open(t, roomy())
	w.do(0, begin(si), insert("a", "1"))
	w.start(0, commit())
	for w.Busy(0) {
		made, _ := w.step(0)
		state, _, _ := w.Base().Tx.Look(1)
		logged := len(w.Commits(0))
		if (made == "g") != (logged == 1 && state == api.TxPreparing) {
			t.Errorf("P10.9: behind an access of %s there are %d entries, the state is %d", made, logged, state)
		}
	}
}

func TestFreeAndFloor(t *testing.T) {
	w := open(t, api.Config{Slots: 5, Buckets: 1, TxSlots: 3, Sessions: 2, Clock: 7})
	look := func(what string, free, limbo int, floor uint64) {
		t.Helper()
		f, l := w.Free()
		want(t, "P10.5: "+what+": Free, Floor", []any{f, l, w.Floor()}, []any{free, limbo, floor})
	}
	look("nothing", 5, 0, 8)
	w.start(0, begin(si))
	w.steps(0, 2)
	look("a begin that is opened", 5, 0, 8)
	w.steps(0, 1)
	look("a begin that is published", 5, 0, 8)
	w.start(1, begin(si))
	w.steps(1, 4)
	look("another one that is drawn", 5, 0, 8)
	w.rest(0)
	look("a begin of 9 that is confirmed", 5, 0, 8)
	w.rest(1)
	w.take(0)
	w.take(1)
	look("two", 5, 0, 8)
	w.start(0, insert("a", "1"))
	w.steps(0, 1)
	look("an insert that has asked", 5, 0, 8)
	w.steps(0, 1)
	look("an insert that has its slot", 4, 0, 8)
	w.rest(0)
	w.take(0)
	w.do(0, commit())
	look("the later one has gone", 4, 0, 8)
	w.do(1, abort())
	look("both have gone", 4, 0, 11)
	w.do(0, begin(si), update("a", "2"), commit(), collect(1))
	look("one in limbo", 3, 1, 14)
	w.do(0, collect(1))
	look("it is freed", 4, 0, 15)
}

func TestRows(t *testing.T) {
	w := open(t, roomy(), row("b", "1", 3), row("d", "2", 10))
	w.do(0, begin(si), insert("c", "3"), update("b", "4"), remove("d"), insert("a", "5"), update("a", "6"))
	want(t, "P10.6: what is not committed is no row, and takes none away", w.Rows(), []api.Row{row("b", "1", 3), row("d", "2", 10)})
	w.start(0, commit())
	behind := false
	for w.Busy(0) {
		w.step(0)
		state, _, _ := w.Base().Tx.Look(1)
		behind = behind || state == api.TxCommitted
		right := []api.Row{row("b", "1", 3), row("d", "2", 10)}
		if behind {
			right = []api.Row{row("a", "6", 12), row("b", "4", 12), row("c", "3", 12)}
		}
		want(t, "P10.6: all rows at once, from the step on with which it is committed", w.Rows(), right)
	}
	w.take(0)
	w.do(0, begin(si), remove("c"), update("a", "7"))
	w.start(0, abort())
	for w.Busy(0) {
		w.step(0)
		want(t, "P10.6: an abort changes nothing", w.Rows(), []api.Row{row("a", "6", 12), row("b", "4", 12), row("c", "3", 12)})
	}
	w.take(0)
	rows := w.Rows()
	rows[0].Key = "changed"
	_ = append(rows[:1], row("more", "", 0))
	want(t, "P0.1: the list is new", keys(w.Rows()), "a=6 b=4 c=3")
}

// Words of all kinds, written by hand.
func TestRowsByWords(t *testing.T) {
	w := open(t, roomy(), row("a", "x", 3))
	tx := w.Base().Tx
	for range 6 { // 1 Active, 2 Preparing, 3 Committed, 4 Aborted, 5 Terminated; 6 is free again
		tx.Open(api.TxInfo{})
	}
	tx.Move(6, api.TxTerminated)
	tx.Drop(6)
	for id := 2; id <= 3; id++ {
		tx.Move(id, api.TxPreparing)
		w.alone(tx.Draw(id))
	}
	tx.Move(3, api.TxCommitted)
	tx.Move(4, api.TxAborted)
	tx.Move(5, api.TxTerminated)
	const inf, bad = api.Infinity, 1 << 62
	for _, c := range []struct {
		begin, end uint64
		row        bool
		stamp      uint64
	}{
		{0, inf, true, 0}, {3, inf, true, 3}, {api.MaxTime, inf, true, api.MaxTime}, {word(3), inf, true, 12},
		{inf, inf, false, 0}, {bad, inf, false, 0}, {word(1), inf, false, 0}, {word(2), inf, false, 0}, {word(4), inf, false, 0}, {word(5), inf, false, 0}, {word(6), inf, false, 0}, {word(21), inf, false, 0}, {1<<63 + 1<<62 - 1, inf, false, 0},
		{3, 9, false, 0}, {3, 0, false, 0}, {3, bad, false, 0}, {3, word(1), true, 3}, {3, word(2), true, 3}, {3, word(3), false, 0}, {3, word(4), true, 3}, {3, word(5), true, 3}, {3, word(6), true, 3}, {3, word(21), true, 3}, {3, 1<<63 + 1<<62 - 1, true, 3},
		{word(3), word(1), true, 12}, {word(3), word(3), false, 0}, {word(1), word(1), false, 0}, {inf, word(1), false, 0},
	} {
		w.Base().Cells.Store(1, api.CellBegin, c.begin)
		w.Base().Cells.Store(1, api.CellEnd, c.end)
		var right []api.Row
		if c.row {
			right = []api.Row{row("a", "x", c.stamp)}
		}
		w.quiet("Rows", func() { want(t, fmt.Sprintf("P10.6: %x to %x", c.begin, c.end), w.Rows(), right) })
	}
	want(t, "P10.6: no miss", w.Base().Misses(), 0)
}

func TestNil(t *testing.T) {
	refused, _ := engine.New(api.Config{})
	for what, x := range map[string]*engine.Engine{"nil": nil, "one that was refused": refused, "one that no New has made": {}} {
		for _, s := range strange() {
			want(t, what+": Start", x.Start(s, begin(si)), api.ErrNil)
			done, e := x.Step(s)
			want(t, what+": Step", []any{done, e}, []any{false, api.ErrNil})
			done, e = x.Run(s, s)
			want(t, what+": Run", []any{done, e}, []any{false, api.ErrNil})
			a, e := x.Take(s)
			want(t, what+": Take", []any{a, e}, []any{api.Answer{}, api.ErrNil})
			for _, calls := range [][]api.Call{nil, {begin(si), {}}} {
				l, e := x.Calls(s, calls...)
				want(t, what+": Calls", []any{l == nil, e}, []any{true, api.ErrNil})
			}
			want(t, what+": Busy, Open, Commits", []any{x.Busy(s), x.Open(s), x.Commits(s) == nil}, []any{false, false, true})
		}
		free, limbo := x.Free()
		want(t, what+": the looks", []any{x.Base() == nil, x.Accesses(), x.Rows() == nil, free, limbo, x.Floor(), x.History().Txns == nil}, []any{true, 0, true, 0, 0, 0, true})
	}
}
