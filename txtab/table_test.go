package txtab_test

import (
	"fmt"
	"math"
	"slices"
	"testing"

	"strata/api"
	"strata/txtab"
)

func TestNew(t *testing.T) {
	for _, slots := range strange() {
		for _, clock := range stamps() {
			x, e := txtab.New(slots, clock)
			what := fmt.Sprintf("P6.1: New(%d, %d)", slots, clock)
			if slots < 1 || slots > 256 || clock > 1<<62-1 {
				want(t, what, pair(x == nil, e), pair(true, api.ErrArg))
				continue
			}
			want(t, what, pair(x != nil, e), pair(true, api.OK))
			all := x.Inside()
			want(t, what+": the clock", all.Clock, clock)
			want(t, what+": places", []any{x.Places(), len(all.Records), len(all.Free)}, []any{slots, slots, slots})
			want(t, what+": no access was made", []any{x.Accesses(), x.Misses(), x.Waiting(), len(x.Live())}, []any{0, 0, 0, 0})
			for i, place := range all.Free {
				want(t, what+": the queue of free places", place, i+1)
				want(t, what+": what is announced", pair(x.Announced(place)), pair(0, api.OK))
			}
		}
	}
}

func TestClock(t *testing.T) {
	w := newWorld(t, 1, 0, 0)
	for n := range uint64(5) {
		w.counted("P6.2: Clock", 1, 0, func() { want(t, "P6.2: Clock", pair(w.Clock()), pair(n, api.OK)) })
		w.counted("P6.2: Tick", 1, 0, func() { want(t, "P6.2: Tick", pair(w.Tick()), pair(n+1, api.OK)) })
	}
	w = newWorld(t, 3, api.MaxTime-2, 0)
	want(t, "P6.2: Tick", pair(w.Tick()), pair(api.MaxTime-1, api.OK))
	want(t, "P6.2: Tick", pair(w.Tick()), pair(api.MaxTime, api.OK))
	for range 3 {
		w.counted("P6.2: Tick at the end", 1, 0, func() { want(t, "P6.2: Tick at the end", pair(w.Tick()), pair(0, api.ErrClock)) })
		w.counted("P6.2: Clock at the end", 1, 0, func() { want(t, "P6.2: Clock at the end", pair(w.Clock()), pair(api.MaxTime, api.OK)) })
	}
}

func TestOpen(t *testing.T) {
	w := newWorld(t, 3, 0, 0)
	infos := []api.TxInfo{{Session: 7, Iso: 4}, {Session: math.MinInt, Iso: math.MaxInt}, {}}
	for i, info := range infos {
		w.counted("P6.3: Open", 1, 0, func() { want(t, "P6.3: Open", pair(w.Open(info)), pair(i+1, api.OK)) })
		want(t, "P6.3: the record", w.record(i+1), txtab.Record{Info: info, State: api.TxActive})
		want(t, "P6.3: Info", pair(w.Info(i+1)), pair(info, api.OK))
	}
	for range 2 {
		w.counted("P6.3: Open", 1, 0, func() { want(t, "P6.3: no place is free", pair(w.Open(infos[0])), pair(0, api.ErrTxFull)) })
	}
	want(t, "P6.3: the others", pair(w.Info(3)), pair(infos[2], api.OK))

	// What a record held is gone when its place is opened again.
	w.Announce(2, 5)
	w.run(w.Draw(2))
	w.run(w.Depend(2, 1))
	w.run(w.Depend(3, 2))
	w.run(w.Depend(1, 2))
	w.SetWord(2, 5<<32+3)
	w.move(2, api.TxPreparing, api.TxAborted)
	w.run(w.Close(2))
	w.run(w.Leave(2))
	want(t, "P6.7: Free", pair(w.Free(9)), pair(true, api.OK))
	want(t, "P6.3: Open again", pair(w.Open(infos[0])), pair(2, api.OK))
	want(t, "P6.3: the record", w.record(2), txtab.Record{Info: infos[0], State: api.TxActive})
	w.move(2, api.TxTerminated)
	want(t, "P6.3: it is not retired", w.Retire(2, 0), api.OK)
}

// The queue of free places goes round.
func TestTheQueueOfFreePlaces(t *testing.T) {
	w := newWorld(t, 4, 0, 4)
	for _, id := range []int{3, 1, 4} {
		w.move(id, api.TxTerminated)
		want(t, "P6.7: Drop", w.Drop(id), api.OK)
	}
	want(t, "P6.7: the queue", w.Inside().Free, []int{3, 1, 4})
	for _, id := range []int{3, 1, 4, 3, 1, 4, 3} {
		want(t, "P6.3: Open", pair(w.Open(api.TxInfo{})), pair(id, api.OK))
		w.move(id, api.TxTerminated)
		w.Drop(id)
	}
	w.move(2, api.TxTerminated)
	w.Drop(2)
	want(t, "P6.7: the queue", w.Inside().Free, []int{1, 4, 3, 2})
}

// to has a way to each state.
func to(state int) []int {
	return [][]int{1: {}, 2: {2}, 3: {2, 3}, 4: {4}, 5: {5}}[state]
}

func TestStateAndMove(t *testing.T) {
	may := map[[2]int]bool{{1, 2}: true, {1, 4}: true, {1, 5}: true, {2, 3}: true, {2, 4}: true, {3, 5}: true, {4, 5}: true}
	for from := 1; from <= 5; from++ {
		for _, state := range strange() {
			w := newWorld(t, 3, 0, 2)
			w.move(2, to(from)...)
			what := fmt.Sprintf("P6.4: Move from %d to %d", from, state)
			right, now := api.ErrMove, from
			if may[[2]int{from, state}] {
				right, now = api.OK, state
			}
			w.counted(what, 1, 0, func() { want(t, what, w.Move(2, state), right) })
			w.counted("P6.4: State", 1, 0, func() { want(t, what+": State", pair(w.State(2)), pair(now, api.OK)) })
			want(t, what+": the record", w.record(2), txtab.Record{Info: api.TxInfo{Session: 1, Iso: 2}, State: now})
			want(t, what+": another record", pair(w.State(1)), pair(api.TxActive, api.OK))
		}
	}
}

func TestAnnounce(t *testing.T) {
	w := newWorld(t, 3, 0, 2)
	last := uint64(0)
	for _, begin := range append(stamps(), 9, 0, 4) {
		right := api.ErrArg
		if begin <= 1<<62-1 {
			right, last = api.OK, begin
		}
		what := fmt.Sprintf("P6.5: Announce(2, %d)", begin)
		w.counted(what, 1, 0, func() { want(t, what, w.Announce(2, begin), right) })
		w.counted("P6.5: Announced", 1, 0, func() { want(t, what+": Announced(2)", pair(w.Announced(2)), pair(last, api.OK)) })
		want(t, what+": Announced(1)", pair(w.Announced(1)), pair(0, api.OK))
	}
	w.counted("P6.5: of a place that is not in use", 1, 0, func() { want(t, "P6.5: Announced(3)", pair(w.Announced(3)), pair(0, api.OK)) })
	for _, id := range []int{0, -1, 4, math.MinInt, math.MaxInt} {
		w.counted("P6.5: of no place", 1, 0, func() { want(t, "P6.5: Announced", pair(w.Announced(id)), pair(0, api.ErrTx)) })
	}
	w.move(2, api.TxTerminated)
	w.Drop(2)
	want(t, "P6.7: Announced(2) of one that was dropped", pair(w.Announced(2)), pair(0, api.OK))
	want(t, "P6.5: ErrTx ahead of ErrArg", w.Announce(2, api.MaxTime+1), api.ErrTx)
	want(t, "P6.5: nothing was written", pair(w.Announced(2)), pair(0, api.OK))
}

func TestEndAndWaits(t *testing.T) {
	w := newWorld(t, 2, 6, 1)
	w.counted("P6.6: End", 1, 0, func() { want(t, "P6.6: End", pair(w.End(1)), pair(0, api.OK)) })
	w.run(w.Draw(1))
	w.counted("P6.6: End", 1, 0, func() { want(t, "P6.6: End", pair(w.End(1)), pair(7, api.OK)) })
	for _, c := range [][3]uint64{{0, 0, 0}, {3, 3, 0}, {5 << 32, 0, 5}, {1<<64 - 1, 1<<32 - 1, 1<<32 - 1}, {1<<63 + 1<<31, 1 << 31, 1 << 31}, {1<<32 - 1, 1<<32 - 1, 0}} {
		w.SetWord(1, c[0])
		w.counted("P6.6: Waits", 1, 0, func() {
			want(t, fmt.Sprintf("P6.6: Waits of the word %x", c[0]), triple(w.Waits(1)), triple(c[1], c[2], api.OK))
		})
	}
}

func TestRetireAndFree(t *testing.T) {
	w := newWorld(t, 4, 0, 4)
	for state := 1; state <= 4; state++ {
		x := newWorld(t, 1, 0, 1)
		x.move(1, to(state)...)
		x.counted("P6.7: Retire", 1, 0, func() { want(t, fmt.Sprintf("P6.7: Retire in state %d", state), x.Retire(1, 0), api.ErrState) })
		x.counted("P6.7: Drop", 1, 0, func() { want(t, fmt.Sprintf("P6.7: Drop in state %d", state), x.Drop(1), api.ErrState) })
		want(t, "P6.7: nothing waits", []any{x.Waiting(), x.Inside().Free, x.record(1).Retired}, []any{0, []int{}, false})
	}
	w.counted("P6.7: Free", 1, 0, func() { want(t, "P6.7: nothing waits", pair(w.Free(math.MaxUint64)), pair(false, api.OK)) })
	for id := range 5 {
		if id > 0 {
			w.Announce(id, uint64(20+id))
			w.move(id, api.TxTerminated)
		}
	}
	for i, c := range [][2]uint64{{3, 7}, {1, math.MaxUint64 - 1}, {4, 2}, {2, math.MaxUint64}} { // any number is a stamp
		w.counted("P6.7: Retire", 1, 0, func() { want(t, "P6.7: Retire", w.Retire(int(c[0]), c[1]), api.OK) })
		want(t, "P6.7: Retire again", w.Retire(int(c[0]), 0), api.ErrState)
		want(t, "P6.7: Drop of one that is retired", w.Drop(int(c[0])), api.ErrState)
		want(t, "P6.7: it stays in use", pair(w.State(int(c[0]))), pair(api.TxTerminated, api.OK))
		want(t, "P6.7: how many wait", w.Waiting(), i+1)
	}
	right := [][2]uint64{{3, 7}, {1, math.MaxUint64 - 1}, {4, 2}, {2, math.MaxUint64}}
	want(t, "P6.7: the queue of those that wait", w.Inside().Waiting, right)
	for _, c := range []struct {
		floor uint64
		frees int // 0: none
	}{{0, 0}, {6, 0}, {7, 0}, {8, 3}, {8, 0}, {math.MaxUint64 - 1, 0}, {math.MaxUint64, 1}, {2, 0}, {3, 4}, {math.MaxUint64, 0}} {
		before := w.Waiting()
		w.counted("P6.7: Free", 1, 0, func() {
			want(t, fmt.Sprintf("P6.7: Free(%d)", c.floor), pair(w.Free(c.floor)), pair(c.frees != 0, api.OK))
		})
		if c.frees == 0 {
			want(t, "P6.7: how many wait", w.Waiting(), before)
			continue
		}
		want(t, "P6.7: how many wait", w.Waiting(), before-1)
		want(t, "P6.7: the freed one", w.record(c.frees), txtab.Record{})
		free := w.Inside().Free
		want(t, "P6.7: its place", free[len(free)-1], c.frees)
		want(t, "P6.7: State of the freed one", pair(w.State(c.frees)), pair(0, api.ErrTx))
	}
	want(t, "P6.7: those in use", w.Live(), []int{2})
	want(t, "P6.7: free", w.Inside().Free, []int{3, 1, 4})
}

// The queue of those that wait goes round too, and stays in the order of the Retires.
func TestTheQueueOfThoseThatWait(t *testing.T) {
	w := newWorld(t, 3, 0, 3)
	leave := func(id int, stamp uint64) {
		w.move(id, api.TxTerminated)
		want(t, "P6.7: Retire", w.Retire(id, stamp), api.OK)
	}
	leave(2, 1)
	leave(1, 1)
	for range 7 {
		waiting := w.Inside().Waiting
		want(t, "P6.7: Free", pair(w.Free(2)), pair(true, api.OK))
		id, e := w.Open(api.TxInfo{})
		want(t, "P6.3: the place comes back", pair(id, e), pair(waiting[0][0], api.OK))
		leave(id, 1)
		want(t, "P6.7: the queue", w.Inside().Waiting, [][2]uint64{waiting[1], {uint64(id), 1}})
	}
}

func TestDrop(t *testing.T) {
	w := newWorld(t, 2, 0, 2)
	w.Announce(1, 3)
	w.move(1, api.TxTerminated)
	w.counted("P6.7: Drop", 1, 0, func() { want(t, "P6.7: Drop", w.Drop(1), api.OK) })
	want(t, "P6.7: the freed one", w.record(1), txtab.Record{})
	want(t, "P6.7: its place", []any{w.Inside().Free, w.Waiting(), w.Live()}, []any{[]int{1}, 0, []int{2}})
	w.counted("P6.7: Drop again", 1, 1, func() { want(t, "P6.7: Drop again", w.Drop(1), api.ErrTx) })
}

// All calls that name a record, with what they answer: first 1 to 4 with an error.
func calls(w *world, id int) map[string]func() []any {
	return map[string]func() []any{
		"State":                func() []any { v, e := w.State(id); return []any{v, e} },
		"Move":                 func() []any { return []any{0, w.Move(id, api.TxPreparing)} },
		"Move to none":         func() []any { return []any{0, w.Move(id, 99)} },
		"Announce":             func() []any { return []any{0, w.Announce(id, 1)} },
		"Announce of too much": func() []any { return []any{0, w.Announce(id, math.MaxUint64)} },
		"End":                  func() []any { v, e := w.End(id); return []any{v, e} },
		"Waits":                func() []any { a, b, e := w.Waits(id); return []any{a + b, e} },
		"Retire":               func() []any { return []any{0, w.Retire(id, 0)} },
		"Drop":                 func() []any { return []any{0, w.Drop(id)} },
	}
}

// looks are those that are no accesses.
func looks(w *world, id int) map[string]func() []any {
	return map[string]func() []any{
		"Info": func() []any { v, e := w.Info(id); return []any{v == api.TxInfo{}, e} },
		"Look": func() []any { a, b, e := w.Look(id); return []any{a == 0 && b == 0, e} },
	}
}

func TestNumbersOfNoRecord(t *testing.T) {
	w := newWorld(t, 5, 10, 5)
	for _, id := range []int{2, 4} { // what they held must not be told
		w.run(w.Start(id))
		w.run(w.Draw(id))
		w.run(w.Depend(id, 1))
	}
	w.run(w.Quit(2))
	w.run(w.Leave(4))
	w.Free(math.MaxUint64)
	for _, id := range append(strange(), 2, 4) {
		if id == 1 || id == 3 || id == 5 {
			continue
		}
		miss := 0
		if id == 2 || id == 4 {
			miss = 1
		}
		inside := fmt.Sprint(w.Inside())
		for name, call := range calls(w, id) {
			what := fmt.Sprintf("%s of %d", name, id)
			w.counted(what, 1, miss, func() { want(t, what, call(), []any{0, api.ErrTx}) })
		}
		for name, call := range looks(w, id) {
			what := fmt.Sprintf("%s of %d", name, id)
			w.counted(what, 0, 0, func() { want(t, what, call(), []any{true, api.ErrTx}) })
		}
		want(t, fmt.Sprintf("P0.1: a call of %d that answers an error changes nothing", id), fmt.Sprint(w.Inside()), inside)
	}
}

func TestLooks(t *testing.T) {
	w := newWorld(t, 4, 30, 4)
	w.Announce(2, 25)
	w.Announce(3, 40)
	w.move(3, api.TxPreparing)
	w.run(w.Draw(3))
	w.move(1, api.TxTerminated)
	w.Drop(1)
	w.move(4, api.TxTerminated)
	w.Retire(4, 0)
	w.counted("looks", 0, 0, func() {
		want(t, "Live", w.Live(), []int{2, 3, 4})
		want(t, "Info", pair(w.Info(3)), pair(api.TxInfo{Session: 2, Iso: 3}, api.OK))
		want(t, "Look", triple(w.Look(3)), triple(api.TxPreparing, 31, api.OK))
		want(t, "Look", triple(w.Look(4)), triple(api.TxTerminated, 0, api.OK))
		want(t, "Look", triple(w.Look(1)), triple(0, 0, api.ErrTx))
		c, f := w.Horizon()
		want(t, "Horizon", []uint64{c, f}, []uint64{31, 25})
		want(t, "Places, Waiting", []int{w.Places(), w.Waiting()}, []int{4, 1})
	})
	w.Announce(2, 0)
	c, f := w.Horizon()
	want(t, "Horizon above which all is announced", []uint64{c, f}, []uint64{31, 32})
	w.Announce(3, 32)
	_, f = w.Horizon()
	want(t, "Horizon", f, 32)
	end := newWorld(t, 1, api.MaxTime, 1)
	c, f = end.Horizon()
	want(t, "Horizon at the end of the clock", []uint64{c, f}, []uint64{api.MaxTime, api.MaxTime + 1})
	want(t, "Live of none", len(newWorld(t, 3, 0, 0).Live()), 0)
	full := newWorld(t, 256, 0, 256).Live()
	want(t, "Live of all", []any{len(full), slices.IsSorted(full), full[0], full[255]}, []any{256, true, 1, 256})
}
