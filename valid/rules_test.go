package valid_test

import (
	"fmt"
	"math/rand"
	"testing"

	"strata/api"
	"strata/cells"
	"strata/chain"
	"strata/ladder"
	"strata/txtab"
	"strata/valid"
	"strata/version"
)

func TestNoSet(t *testing.T) {
	var s *valid.Sees
	for _, n := range strange() {
		want(t, "P9.2: Read of a nil set", []any{s.Read(), s.Read(n), s.Read(n, n)}, []any{api.ErrNil, api.ErrNil, api.ErrNil})
		want(t, "P9.2: Has of a nil set", s.Has(n), false)
	}
	want(t, "P9.2: too many for a nil set", s.Read(upTo(1, api.MaxIntents+1)...), api.ErrNil)
	for _, low := range texts() {
		want(t, "P9.2: Look of a nil set", s.Look(low, low), api.ErrNil)
	}
	if s.Slots() != nil || s.Ranges() != nil {
		t.Errorf("P9.2: lists of a nil set: %v, %v", s.Slots(), s.Ranges())
	}
}

// A set that no call has made is an empty one.
func TestAZeroSet(t *testing.T) {
	s := new(valid.Sees)
	holds(t, "a zero set", s, nil)
	want(t, "a zero set", []any{s.Read(2, 2), s.Look("a", "")}, []any{api.OK, api.OK})
	holds(t, "a zero set", s, []int{2}, valid.Range{Low: "a"})
}

// Machines of no base or no set, and those that no call has made, are as nil ones.
func TestNoMachines(t *testing.T) {
	w := newWorld(t, 4, 2, 7)
	s := sees(t, []int{1}, "", "")
	for _, id := range strange() {
		for _, iso := range strange() {
			for _, c := range []struct {
				base *version.Base
				set  *valid.Sees
			}{{nil, s}, {w.Base, nil}, {nil, nil}} {
				r, l, x := valid.NewReads(c.base, id, c.set, 5), valid.NewLooks(c.base, id, c.set, 5), valid.NewCheck(c.base, id, iso, c.set, 5)
				want(t, "machines of no base or no set", []bool{r == nil, l == nil, x == nil}, []bool{true, true, true})
			}
		}
	}
	for range 3 {
		for _, m := range []machine{(*valid.Reads)(nil), (*valid.Looks)(nil), (*valid.Check)(nil), new(valid.Reads), new(valid.Looks), new(valid.Check)} {
			want(t, fmt.Sprintf("a %T that was not made", m), []any{m.Step(), m.Step(), m.Code()}, []any{true, true, api.ErrNil})
		}
	}
}

// A machine is made without an access, whatever it is given.
func TestMachinesAreMadeWithoutAnAccess(t *testing.T) {
	w := others(t)
	w.put("a", "3", "#4")
	inside, old := dump(w.Base), w.count()
	for _, id := range strange() {
		for _, at := range stamps() {
			s := sees(t, []int{id, 1}, "", "")
			for _, m := range []machine{valid.NewReads(w.Base, id, s, at), valid.NewLooks(w.Base, id, s, at), valid.NewCheck(w.Base, id, id, s, at), valid.NewCheck(w.Base, 1, id, s, at)} {
				want(t, "a machine that has made no step", m.Code(), api.OK)
			}
		}
	}
	want(t, "making machines", []any{dump(w.Base) == inside, w.since(old)}, []any{true, ""})
}

// A base whose parts no call has made, or whose parts are taken away: nothing is promised of it, but nothing panics and all ends.
func TestBasesOfOtherMaking(t *testing.T) {
	good, _ := version.New(api.Config{Slots: 3, Buckets: 1, TxSlots: 2})
	s := sees(t, []int{1, 0, 2}, "", "", "a", "b")
	machines := func(b *version.Base) []machine {
		return []machine{valid.NewReads(b, 1, s, 5), valid.NewLooks(b, 1, s, 5), valid.NewCheck(b, 1, 4, s, 5), valid.NewCheck(b, 1, 9, s, 5), valid.NewCheck(b, 0, 3, s, 5)}
	}
	end := func(all []machine) {
		for _, m := range all {
			for n := 0; !m.Step(); n++ {
				if n > 100 {
					t.Fatal("a machine over a base of no making does not end")
				}
			}
			m.Code()
		}
	}
	for _, b := range []*version.Base{
		{},
		{Tx: good.Tx},
		{Cells: good.Cells, Tx: good.Tx},
		{Cells: new(cells.Arena[api.Entry]), Hash: good.Hash, Order: good.Order, Tx: good.Tx},
		{Cells: good.Cells, Hash: new(chain.Index[api.Entry]), Order: good.Order, Tx: good.Tx},
		{Cells: good.Cells, Hash: good.Hash, Order: new(ladder.Ladder[api.Entry]), Tx: good.Tx},
		{Cells: good.Cells, Hash: good.Hash, Order: good.Order, Tx: new(txtab.Table)},
	} {
		end(machines(b))
	}
	for missing := range 4 {
		for ahead := range 20 {
			w := newWorld(t, 4, 2, 9)
			w.open(2)
			w.put("a", "3", "#2")
			w.put("c", "11", "inf")
			all := machines(w.Base)
			for _, m := range all {
				for range ahead {
					m.Step()
				}
			}
			switch missing {
			case 0:
				w.Cells = nil
			case 1:
				w.Hash = nil
			case 2:
				w.Order = nil
			case 3:
				w.Tx = nil
			}
			end(append(all, machines(w.Base)...))
		}
	}
}

func TestNoCallPanics(t *testing.T) {
	for _, clock := range []uint64{7, api.MaxTime} {
		w := newWorld(t, 8, 4, clock)
		w.open(3)
		w.move(2, api.TxPreparing)
		w.move(3, api.TxAborted, api.TxTerminated)
		for i, words := range [][2]string{{"0", "inf"}, {"#1", "#2"}, {"inf", "#7"}, {"bad", "0"}, {"1", "#3"}, {"#2", "bad"}} {
			w.put([]string{"a", "b", "zz"}[i%3], words[0], words[1])
		}
		for _, n := range strange() {
			var all []machine
			for i, at := range stamps() {
				s := valid.NewSees()
				for _, x := range []int{n, i, i + 1} {
					s.Read(x)
				}
				s.Look(texts()[i], texts()[(i+1)%3])
				s.Look("", "")
				all = append(all, valid.NewReads(w.Base, n, s, at), valid.NewLooks(w.Base, n, s, at), valid.NewCheck(w.Base, 1, n, s, at), valid.NewCheck(w.Base, n, 4, s, at))
			}
			for range 70 {
				for _, m := range all {
					w.step(m)
				}
			}
		}
	}
}

// Objects of different New's have nothing in common.
func TestNothingInCommon(t *testing.T) {
	a, b := skewed(t), skewed(t)
	one, two := sees(t, []int{1, 2}, "a", "c"), sees(t, []int{1, 2}, "a", "c")
	inside, old := dump(b.Base), b.count()
	a.draw(2)
	m := valid.NewCheck(b.Base, 1, 4, two, 5)
	a.run(valid.NewCheck(a.Base, 2, 4, one, 6))
	one.Read(3)
	one.Look("x", "y")
	want(t, "P0.1: another base", []any{dump(b.Base) == inside, b.since(old)}, []any{true, ""})
	holds(t, "P0.1: another set", two, []int{1, 2}, valid.Range{Low: "a", High: "c"})
	b.run(m)
	want(t, "P0.1: a machine of another base and another set", m.Code(), api.OK)
}

// The same script has the same answers at every time.
func TestTheSameAgain(t *testing.T) {
	tell := func() string {
		source := rand.New(rand.NewSource(9))
		w := others(t)
		for i := range 6 {
			w.put([]string{"a", "zz", "q"}[i%3], []string{"3", "#4", "#5"}[i%3], []string{"inf", "#3", "#6"}[i/2])
		}
		s := sees(t, []int{1, 4, 2}, "b", "", "", "b", "q", "r")
		all := []machine{valid.NewReads(w.Base, 1, s, 10), valid.NewLooks(w.Base, 1, s, 8), valid.NewCheck(w.Base, 2, 4, s, 10), valid.NewCheck(w.Base, 2, 3, s, 9)}
		text := ""
		for range 150 {
			m := all[source.Intn(len(all))]
			text += fmt.Sprint(m.Step(), m.Code(), dump(w.Base, m), w.count())
		}
		return text
	}
	first := tell()
	for range 5 {
		if tell() != first {
			t.Fatal("P0.1: the same steps, and other answers")
		}
	}
}
