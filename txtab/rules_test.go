package txtab_test

import (
	"fmt"
	"math/rand"
	"testing"

	"strata/api"
	"strata/txtab"
)

func TestNoTable(t *testing.T) {
	refused, _ := txtab.New(0, 0)
	for name, x := range map[string]*txtab.Table{"nil": nil, "refused": refused, "not made by New": {}} {
		for _, n := range strange() {
			for _, stamp := range stamps() {
				got := []any{
					pair(x.Clock()), pair(x.Tick()), pair(x.Open(api.TxInfo{Session: n})), pair(x.Info(n)), pair(x.State(n)), x.Move(n, n), pair(x.Announced(n)), x.Announce(n, stamp),
					pair(x.End(n)), triple(x.Waits(n)), x.Retire(n, stamp), pair(x.Free(stamp)), x.Drop(n), triple(x.Look(n)),
				}
				right := []any{
					pair(0, api.ErrNil), pair(0, api.ErrNil), pair(0, api.ErrNil), pair(api.TxInfo{}, api.ErrNil), pair(0, api.ErrNil), api.ErrNil, pair(0, api.ErrNil), api.ErrNil,
					pair(0, api.ErrNil), triple(0, 0, api.ErrNil), api.ErrNil, pair(false, api.ErrNil), api.ErrNil, triple(0, 0, api.ErrNil),
				}
				want(t, "P6.2 to P6.7: calls, "+name, got, right)
				clock, floor := x.Horizon()
				want(t, "looks, "+name, []any{x.Waiting(), x.Live() == nil, clock, floor, x.Places(), x.Accesses(), x.Misses()}, []any{0, true, 0, 0, 0, 0, 0})
			}
			want(t, "machines, "+name, []bool{x.Start(n) == nil, x.Draw(n) == nil, x.Depend(n, 1) == nil, x.Close(n) == nil, x.Floor() == nil, x.Leave(n) == nil, x.Quit(n) == nil}, []bool{true, true, true, true, true, true, true})
		}
	}
}

// Machines that no table has made are as nil ones.
func TestNoMachines(t *testing.T) {
	for range 3 {
		for name, all := range map[string][]machine{
			"nil":  {(*txtab.Start)(nil), (*txtab.Draw)(nil), (*txtab.Depend)(nil), (*txtab.Close)(nil), (*txtab.Floor)(nil), (*txtab.Leave)(nil), (*txtab.Quit)(nil)},
			"zero": {new(txtab.Start), new(txtab.Draw), new(txtab.Depend), new(txtab.Close), new(txtab.Floor), new(txtab.Leave), new(txtab.Quit)},
		} {
			for _, m := range all {
				want(t, fmt.Sprintf("a %s %T", name, m), []any{m.Step(), m.Step(), m.Code(), told(m)}, []any{true, true, api.ErrNil, 0})
			}
		}
	}
}

func TestNoCallPanics(t *testing.T) {
	for _, clock := range []uint64{0, api.MaxTime} {
		w := newWorld(t, 6, clock, 3)
		for _, n := range strange() {
			var all []machine
			for _, other := range strange() {
				all = append(all, w.Depend(n, other), w.Depend(other, n))
				w.Move(n, other)
				w.Open(api.TxInfo{Session: n, Iso: other})
			}
			for _, stamp := range stamps() {
				w.Announce(n, stamp)
				w.Retire(n, stamp)
				w.Free(stamp)
			}
			w.State(n)
			w.Announced(n)
			w.End(n)
			w.Waits(n)
			w.Drop(n)
			w.Info(n)
			w.Look(n)
			all = append(all, w.Start(n), w.Draw(n), w.Close(n), w.Floor(), w.Leave(n), w.Quit(n))
			for range 30 {
				for _, m := range all {
					if made := w.counts(func() { m.Step() }); made[0] > 1 {
						t.Fatalf("P0.2: a step made %d accesses", made[0])
					}
					m.Code()
				}
			}
		}
	}
}

// A list that was given out is the caller's: what is written into it, or behind it, is seen by nobody else.
func TestAnswersAreNewMemory(t *testing.T) {
	w := newWorld(t, 5, 0, 5)
	w.free(3)
	kept := w.Live()
	list := w.Live()
	list = list[:cap(list)]
	for i := range list {
		list[i] = -99
	}
	_ = append(kept[:1], 77)
	want(t, "P0.1: Live", w.Live(), []int{1, 2, 4, 5})
	kept = w.Live()
	w.free(1)
	want(t, "P0.1: an earlier answer", kept, []int{1, 2, 4, 5})
	want(t, "P0.1: Live", w.Live(), []int{2, 4, 5})
}

// What was handed in is the caller's too.
func TestArgumentsAreNotKept(t *testing.T) {
	w := newWorld(t, 1, 0, 0)
	info := api.TxInfo{Session: 4, Iso: 2}
	w.Open(info)
	info.Session = 9
	got, _ := w.Info(1)
	want(t, "P0.1: Info", got, api.TxInfo{Session: 4, Iso: 2})
	got.Iso = 7
	want(t, "P0.1: Info", pair(w.Info(1)), pair(api.TxInfo{Session: 4, Iso: 2}, api.OK))
}

// Objects of different New's have nothing in common.
func TestTablesHaveNothingInCommon(t *testing.T) {
	a, b := newWorld(t, 2, 5, 2), newWorld(t, 3, 9, 1)
	inside, accesses := fmt.Sprint(b.Inside()), b.Accesses()
	a.run(a.Start(1))
	a.run(a.Draw(2))
	a.fill(1, 2)
	a.free(2)
	a.State(2)
	want(t, "P0.1: another table", []any{fmt.Sprint(b.Inside()), b.Accesses(), b.Misses()}, []any{inside, accesses, 0})
	want(t, "P0.1: Start", told(func() machine { m := b.Start(1); b.run(m); return m }()), 10)
}

// The same script has the same answers at every time.
func TestTheSameAgain(t *testing.T) {
	tell := func() string {
		source := rand.New(rand.NewSource(9))
		w := newWorld(t, 4, 0, 4)
		all := []machine{w.Start(1), w.Start(2), w.Start(3), w.Draw(1), w.Draw(1), w.Depend(1, 2), w.Depend(2, 3), w.Depend(4, 2), w.Floor(), w.Leave(4), w.Quit(3), w.Close(2)}
		text := ""
		for range 150 {
			m := all[source.Intn(len(all))]
			text += fmt.Sprint(m.Step(), m.Code(), told(m), w.Inside(), w.Accesses(), w.Misses())
		}
		return text
	}
	first := tell()
	for range 5 {
		if tell() != first {
			t.Fatal("P0.1: the same steps, and other answers")
		}
	}
}
