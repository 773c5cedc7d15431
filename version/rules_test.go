package version_test

import (
	"fmt"
	"math/rand"
	"strings"
	"testing"

	"strata/api"
	"strata/version"
)

func TestNoBase(t *testing.T) {
	refused, _ := version.New(api.Config{})
	whole, _ := version.New(api.Config{Slots: 1, Buckets: 1, TxSlots: 1})
	for name, b := range map[string]*version.Base{
		"nil": nil, "refused": refused, "not made by New": {},
		"no cells": {Hash: whole.Hash, Order: whole.Order, Tx: whole.Tx}, "no hash index": {Cells: whole.Cells, Order: whole.Order, Tx: whole.Tx},
		"no ladder": {Cells: whole.Cells, Hash: whole.Hash, Tx: whole.Tx}, "no table": {Cells: whole.Cells, Hash: whole.Hash, Order: whole.Order},
	} {
		for _, n := range strange() {
			for _, stamp := range stamps() {
				begin, end, e := b.Words(n)
				want(t, "calls, "+name, []any{b.Accesses(), b.Misses(), b.Bucket("a"), b.Bucket(""), begin, end, e}, []any{0, 0, 0, 0, 0, 0, api.ErrNil})
				for i, missing := range []bool{
					b.Make(n, "k", "d") == nil, b.Load(stamp, "k", "d") == nil, b.See(n, n, stamp) == nil, b.Bar(n, n, stamp) == nil, b.Lock(n, n) == nil,
					b.Find(n, "k", stamp) == nil, b.Free(n, n, stamp) == nil, b.Commit(n, []int{n}, nil, stamp) == nil, b.Undo(n, nil, []int{n}) == nil,
				} {
					want(t, fmt.Sprintf("machine %d, %s", i, name), missing, true)
				}
			}
		}
	}
}

// Machines that no base has made are as nil ones.
func TestNoMachines(t *testing.T) {
	for range 3 {
		for name, all := range map[string][]machine{
			"nil":  {(*version.Make)(nil), (*version.See)(nil), (*version.Bar)(nil), (*version.Lock)(nil), (*version.Find)(nil), (*version.Free)(nil), (*version.Fix)(nil)},
			"zero": {new(version.Make), new(version.See), new(version.Bar), new(version.Lock), new(version.Find), new(version.Free), new(version.Fix)},
		} {
			for _, m := range all {
				want(t, fmt.Sprintf("a %s %T", name, m), []any{m.Step(), m.Step(), m.Code(), silent(m)}, []any{true, true, api.ErrNil, true})
			}
		}
	}
}

// A base whose parts are not of this layer's making: nothing is promised of it, but nothing panics.
func TestBasesOfOtherMaking(t *testing.T) {
	other := newWorld(t, 2, 1, 1, 0)
	other.put("k", 1, api.Infinity)
	for range 4 {
		b := &version.Base{Cells: other.Cells, Hash: other.Hash, Order: other.Order, Tx: other.Tx}
		for _, m := range []machine{b.Make(1, "k", ""), b.Find(1, "k", 5), b.Free(1, 1, 5)} {
			for range 20 {
				m.Step()
			}
		}
	}
	b := new(version.Base)
	*b = *other.Base
	m := b.See(1, 1, 5)
	b.Cells, b.Tx, b.Hash, b.Order = nil, nil, nil, nil
	want(t, "parts that are taken away", []any{m.Step(), m.Code() != api.OK}, []any{true, true})
}

func TestNoCallPanics(t *testing.T) {
	for _, clock := range []uint64{0, api.MaxTime} {
		w := newWorld(t, 6, 2, 5, clock)
		w.open(3)
		w.move(2, api.TxPreparing)
		for i, words := range [][2]uint64{{0, api.Infinity}, {word(1), word(2)}, {word(2), word(7)}, {1 << 62, 0}} {
			w.put([]string{"a", "b"}[i%2], words[0], words[1])
		}
		keys := []string{"", "a", "b", "\x00", strings.Repeat("x", 160), strings.Repeat("x", 5000)}
		for i, n := range strange() {
			var all []machine
			key := keys[i%len(keys)]
			for _, other := range strange() {
				for _, stamp := range stamps() {
					all = append(all, w.See(n, other, stamp), w.Bar(n, other, stamp), w.Free(n, other, stamp), w.Find(n, key, stamp), w.Commit(n, []int{other, n}, []int{other}, stamp))
					version.JudgeBegin(false, n, stamp, uint64(other))
					version.JudgeEnd(true, n, stamp, uint64(other))
				}
				all = append(all, w.Lock(n, other), w.Undo(n, []int{other, other}, []int{n, other}))
				w.Words(other)
			}
			for _, stamp := range stamps() {
				all = append(all, w.Load(stamp, key, keys[(i+1)%len(keys)]), w.Make(n, key, keys[(i+2)%len(keys)]))
			}
			for range 25 {
				for _, m := range all {
					accesses := w.Accesses()
					done := m.Step()
					if made := w.Accesses() - accesses; made > 1 || made == 0 && !done {
						t.Fatalf("P7.11: a step of %T made %d accesses (the last: %v)", m, made, done)
					}
					m.Code()
					told(m)
				}
			}
			w.Bucket(key)
		}
	}
}

// Objects of different New's have nothing in common.
func TestBasesHaveNothingInCommon(t *testing.T) {
	a, b := newWorld(t, 4, 1, 2, 5), newWorld(t, 4, 1, 2, 5)
	b.put("k", 1, api.Infinity)
	inside, accesses := dump(b.Base), b.Accesses()
	a.open(2)
	a.put("k", 2, api.Infinity)
	a.put("k", 3, 9)
	a.run(a.Lock(1, 1))
	a.run(a.Commit(1, []int{1}, []int{1}, 8))
	a.run(a.Find(2, "k", 9))
	a.run(a.Free(2, 2, 9))
	want(t, "P0.1: another base", []any{dump(b.Base) == inside, b.Accesses(), b.Misses()}, []any{true, accesses, 0})
}

// The same script has the same answers at every time.
func TestTheSameAgain(t *testing.T) {
	tell := func() string {
		source := rand.New(rand.NewSource(9))
		w := newWorld(t, 9, 1, 4, 20)
		w.open(4)
		w.move(2, api.TxPreparing)
		w.put("a", 5, api.Infinity)
		w.put("a", word(2), word(3))
		all := []machine{w.Make(1, "a", "x"), w.Make(3, "zz", ""), w.See(1, 2, 30), w.Bar(4, 2, 30), w.Lock(1, 1), w.Lock(3, 1), w.Find(3, "a", 30), w.Free(4, 2, 30), w.Commit(4, []int{2}, nil, 25), w.Undo(1, nil, []int{1})}
		text := ""
		for range 150 {
			m := all[source.Intn(len(all))]
			text += fmt.Sprint(m.Step(), m.Code(), told(m), dump(w.Base), w.Accesses(), w.Misses())
		}
		return text
	}
	first := tell()
	for range 5 {
		if tell() != first {
			t.Fatal("P0.1: the same steps, and other answers")
		}
	}
}
