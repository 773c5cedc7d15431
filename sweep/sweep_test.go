package sweep_test

import (
	"fmt"
	"testing"

	"strata/api"
	"strata/sweep"
	"strata/version"
)

func TestNew(t *testing.T) {
	b, _ := version.New(api.Config{Slots: 4, Buckets: 2, TxSlots: 2, Clock: 7})
	for name, half := range map[string]*version.Base{
		"nil": nil, "empty": {},
		"no cells": {Hash: b.Hash, Order: b.Order, Tx: b.Tx}, "no hash index": {Cells: b.Cells, Order: b.Order, Tx: b.Tx},
		"no ladder": {Cells: b.Cells, Hash: b.Hash, Tx: b.Tx}, "no table": {Cells: b.Cells, Hash: b.Hash, Order: b.Order},
		"cells alone": {Cells: b.Cells}, "a table alone": {Tx: b.Tx},
	} {
		s, e := sweep.New(half)
		want(t, "P8.1: New of a base, "+name, []any{s == nil, e}, []any{true, api.ErrNil})
	}
	inside := dump(b)
	s, e := sweep.New(b)
	want(t, "P8.1: New", []any{s != nil, e}, []any{true, api.OK})
	want(t, "P8.1: what a new one tells", []int{s.Accesses(), s.Limbo(), s.Unlinked(), s.Freed()}, []int{0, 0, 0, 0})
	want(t, "P8.1: the base behind New", []any{dump(b) == inside, b.Accesses()}, []any{true, 0})
}

// The amounts behind each step of a version's way through limbo, and of what makes no access.
func TestAmounts(t *testing.T) {
	w := newWorld(t, 8, 1, 4, 20)
	one, two := w.put("a", 3, 5), w.put("b", api.Infinity, api.Infinity)
	m := w.Collect(one, 9)
	w.amounts("at first", 0, 0, 0)
	for done := false; !done; {
		w.amounts("while it is taken out", 0, 0, 0)
		want(t, "P8.2: Accesses", w.Sweeper.Accesses(), 0)
		_, done = w.step(m)
	}
	w.amounts("behind a Collect", 1, 1, 0)
	want(t, "P8.2: Accesses", w.Sweeper.Accesses(), 1)
	w.collect(two, 0)
	w.amounts("behind two", 2, 2, 0)
	w.run(w.Collect(one, 9))
	w.amounts("behind one that is refused", 2, 2, 0)
	want(t, "P8.2: Accesses", w.Sweeper.Accesses(), 2)
	r := w.Reclaim(21, 5)
	w.play("a look", r, "l")
	w.amounts("behind a look", 1, 2, 0)
	w.play("and a Free", r, "c")
	w.amounts("behind a Free", 1, 2, 1)
	other := w.Reclaim(20, 5)
	w.finish("a look that finds nothing below", other, "l", api.OK, 0)
	w.amounts("behind a look at one that stays", 1, 2, 1)
	want(t, "P8.2: Accesses", w.Sweeper.Accesses(), 4)
	w.finish("the rest", r, "lcl", api.OK, 2)
	w.amounts("at the end", 0, 2, 2)
	want(t, "P8.2: Accesses", w.Sweeper.Accesses(), 6)
	accesses := w.all()
	for range 3 {
		w.Sweeper.Accesses()
		w.amounts("asked again", 0, 2, 2)
	}
	want(t, "P8.2: what is asked makes no access", w.all(), accesses)
}

// While several Reclaims are at work, each may have one entry that is out and not yet freed.
func TestAmountsOfSeveralReclaims(t *testing.T) {
	w := newWorld(t, 8, 1, 4, 20)
	for range 5 {
		w.collect(w.put("a", 3, 5), 9)
	}
	one, two := w.Reclaim(21, 9), w.Reclaim(21, 9)
	w.play("one", one, "l")
	w.play("two", two, "l")
	w.amounts("two are out", 3, 5, 0)
	w.play("two", two, "cl")
	w.amounts("two are out, one is freed", 2, 5, 1)
	w.play("one", one, "c")
	w.amounts("one is out, two are freed", 2, 5, 2)
	w.finish("one", one, "lclcl", api.OK, 3)
	w.amounts("one is out, four are freed", 0, 5, 4)
	w.finish("two", two, "cl", api.OK, 2)
	w.amounts("all are freed", 0, 5, 5)
}

func TestGarbage(t *testing.T) {
	for _, c := range []struct {
		begin, end string
		floor      uint64
		right      bool
	}{
		{"inf", "inf", 0, true}, {"inf", "0", 0, true}, {"inf", "9", 0, true}, {"inf", "#1", 0, true}, {"inf", "bad", 0, true},
		{"3", "7", 7, true}, {"3", "7", 8, true}, {"3", "7", 6, false}, {"3", "7", 0, false}, {"7", "3", 3, true}, {"7", "3", 2, false}, {"0", "0", 0, true}, {"0", "1", 0, false},
		{"3", "inf", 100, false}, {"3", "inf", 1<<64 - 1, false}, {"3", "#1", 9, false}, {"3", "#1", 1<<64 - 1, false}, {"3", "bad", 9, false}, {"3", "bad", 1<<64 - 1, false},
		{"#1", "5", 9, false}, {"#1", "inf", 9, false}, {"#1", "#1", 9, false}, {"#1", "bad", 9, false}, {"#0", "0", 9, false},
		{"bad", "5", 9, false}, {"bad", "inf", 9, false}, {"bad", "#2", 9, false}, {"bad", "bad", 9, false}, {"bad", "0", 1<<64 - 1, false},
	} {
		want(t, fmt.Sprintf("P8.3: Garbage(%s, %s, %d)", c.begin, c.end, c.floor), sweep.Garbage(wordOf(c.begin), wordOf(c.end), c.floor), c.right)
	}
	for _, bad := range badWords() {
		want(t, fmt.Sprintf("P8.3: the bad word %d", bad), []bool{sweep.Garbage(bad, 1, 9), sweep.Garbage(1, bad, 1<<64-1), sweep.Garbage(api.Infinity, bad, 0)}, []bool{false, false, true})
	}
	const last = api.MaxTime
	want(t, "P8.3: at the last timestamp", []bool{sweep.Garbage(last, last, last), sweep.Garbage(1, last, last-1), sweep.Garbage(last, 1, 1), sweep.Garbage(1, last, last+1), sweep.Garbage(1, last, 1<<64-1)}, []bool{true, false, true, true, true})
}
