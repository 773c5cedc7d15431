package sweep_test

import (
	"fmt"
	"math/rand"
	"testing"

	"strata/api"
	"strata/cells"
	"strata/chain"
	"strata/ladder"
	"strata/sweep"
	"strata/txtab"
	"strata/version"
)

func TestNoSweeper(t *testing.T) {
	refused, _ := sweep.New(nil)
	half, _ := sweep.New(&version.Base{})
	for name, s := range map[string]*sweep.Sweeper{"nil": nil, "refused": refused, "of half a base": half, "not made by New": {}} {
		want(t, "P8.2: what is told, "+name, []int{s.Accesses(), s.Limbo(), s.Unlinked(), s.Freed()}, []int{0, 0, 0, 0})
		for _, n := range strange() {
			for _, stamp := range stamps() {
				c, r, p := s.Collect(n, stamp), s.Reclaim(stamp, n), s.Pass(n)
				want(t, "P8.4: machines, "+name, []bool{c == nil, r == nil, p == nil}, []bool{true, true, true})
			}
		}
	}
}

// Machines that no sweeper has made are as nil ones.
func TestNoMachines(t *testing.T) {
	for range 3 {
		for name, all := range map[string][]machine{
			"nil":  {(*sweep.Collect)(nil), (*sweep.Reclaim)(nil), (*sweep.Pass)(nil)},
			"zero": {new(sweep.Collect), new(sweep.Reclaim), new(sweep.Pass)},
		} {
			for i, m := range all {
				want(t, fmt.Sprintf("P8.4: a %s %T", name, m), []any{m.Step(), m.Step(), m.Code(), told(m)}, []any{true, true, api.ErrNil, []any{nil, 0, [2]uint64{}}[i]})
			}
		}
	}
}

// A machine is made without an access, whatever it is given.
func TestMachinesAreMadeWithoutAnAccess(t *testing.T) {
	w := newWorld(t, 4, 2, 2, 9)
	w.put("a", 1, 2)
	inside, accesses, misses := w.inside(), w.all(), w.Misses()
	for _, n := range strange() {
		for _, stamp := range stamps() {
			for _, m := range []machine{w.Collect(n, stamp), w.Reclaim(stamp, n), w.Pass(n)} {
				want(t, "P8.4: a machine that has made no step", m.Code(), api.OK)
			}
		}
	}
	want(t, "P8.4: making machines", []any{w.inside() == inside, w.all(), w.Misses()}, []any{true, accesses, misses})
}

// A base whose parts no call has made, or whose parts are taken away: nothing is promised of it, but nothing panics and all ends.
func TestBasesOfOtherMaking(t *testing.T) {
	good, _ := version.New(api.Config{Slots: 3, Buckets: 1, TxSlots: 2})
	for _, b := range []*version.Base{
		{Cells: new(cells.Arena[api.Entry]), Hash: good.Hash, Order: good.Order, Tx: good.Tx},
		{Cells: good.Cells, Hash: new(chain.Index[api.Entry]), Order: good.Order, Tx: good.Tx},
		{Cells: good.Cells, Hash: good.Hash, Order: new(ladder.Ladder[api.Entry]), Tx: good.Tx},
		{Cells: good.Cells, Hash: good.Hash, Order: good.Order, Tx: new(txtab.Table)},
	} {
		s, e := sweep.New(b)
		want(t, "P8.1: New", []any{s != nil, e}, []any{true, api.OK})
		for _, m := range []machine{s.Collect(1, 9), s.Reclaim(9, 9), s.Pass(0), s.Pass(-1)} {
			for n := 0; !m.Step(); n++ {
				if n > 100 {
					t.Fatal("a machine over a base of no making does not end")
				}
			}
			m.Code()
		}
	}
	for missing := range 4 {
		for ahead := range 30 {
			w := newWorld(t, 4, 1, 2, 9)
			slot := w.put("a", 1, 2)
			w.limbo(9)
			all := []machine{w.Collect(slot, 9), w.Reclaim(10, 9), w.Pass(0)}
			for _, m := range all {
				for range ahead {
					m.Step()
				}
			}
			switch missing {
			case 0:
				w.Cells = nil
			case 1:
				w.Hash = nil
			case 2:
				w.Order = nil
			case 3:
				w.Tx = nil
			}
			for _, m := range append(all, w.Collect(slot, 9), w.Reclaim(10, 9), w.Pass(0)) {
				for n := 0; !m.Step(); n++ {
					if n > 100 {
						t.Fatal("a machine whose base lacks a part does not end")
					}
				}
				m.Code()
			}
		}
	}
}

func TestNoCallPanics(t *testing.T) {
	for _, clock := range []uint64{0, api.MaxTime} {
		w := newWorld(t, 8, 2, 3, clock)
		w.open(1)
		for i, words := range [][2]uint64{{0, api.Infinity}, {word(1), word(2)}, {api.Infinity, word(7)}, {1 << 62, 0}, {1, 0}, {0, 1 << 63}} {
			w.put([]string{"a", "b", "zz"}[i%3], words[0], words[1])
		}
		for _, n := range strange() {
			var all []machine
			for _, stamp := range stamps() {
				all = append(all, w.Collect(n, stamp), w.Reclaim(stamp, n), w.Pass(n))
				sweep.Garbage(stamp, uint64(n), stamp)
			}
			for range 70 {
				for _, m := range all {
					accesses := w.all()
					done := m.Step()
					if made := w.all() - accesses; made > 1 || made == 0 && !done {
						t.Fatalf("P8.4: a step of %T made %d accesses (the last: %v)", m, made, done)
					}
					m.Code()
					told(m)
				}
			}
		}
		for _, one := range append(stamps(), badWords()...) {
			for _, two := range stamps() {
				for _, floor := range stamps() {
					sweep.Garbage(one, two, floor)
				}
			}
		}
	}
}

// Objects of different New's have nothing in common but the base that they were given.
func TestSweepersHaveNothingInCommon(t *testing.T) {
	a, b := newWorld(t, 4, 1, 2, 5), newWorld(t, 4, 1, 2, 5)
	b.put("k", 1, 2)
	b.limbo(5)
	inside, accesses := b.inside(), b.all()
	a.put("k", 2, 3)
	a.limbo(5)
	a.run(a.Pass(0))
	a.run(a.Reclaim(99, 9))
	want(t, "P0.1: another base", []any{b.inside() == inside, b.all(), b.Misses()}, []any{true, accesses, 0})
	other := a.another()
	other.amounts("P0.1: another sweeper of the same base", 0, 0, 0)
	want(t, "P0.1: another sweeper of the same base", other.Sweeper.Accesses(), 0)
}

// The same script has the same answers at every time.
func TestTheSameAgain(t *testing.T) {
	tell := func() string {
		source := rand.New(rand.NewSource(9))
		w := newWorld(t, 9, 1, 4, 20)
		for i := range 6 {
			w.put([]string{"a", "zz", "q"}[i%3], uint64(i), []uint64{7, 9, 30, api.Infinity}[i%4])
		}
		all := []machine{w.Pass(0), w.Pass(0), w.Collect(1, 20), w.Reclaim(40, 3), w.Reclaim(21, 9)}
		text := ""
		for range 250 {
			m := all[source.Intn(len(all))]
			text += fmt.Sprint(m.Step(), m.Code(), told(m), w.inside(), w.all(), w.Misses())
		}
		return text
	}
	first := tell()
	for range 5 {
		if tell() != first {
			t.Fatal("P0.1: the same steps, and other answers")
		}
	}
}
