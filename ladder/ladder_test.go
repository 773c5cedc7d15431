package ladder_test

import (
	"fmt"
	"testing"

	"strata/api"
	"strata/cells"
	"strata/ladder"
)

func TestNewIsRefused(t *testing.T) {
	a, _ := cells.New[entry](2, 5)
	for _, link := range append(strange(), 1, 2, 3, 4, 5) {
		for _, levels := range strange() {
			right := api.OK
			if levels < 1 || levels > 4 || link < 0 || link > 4 || link+levels > 5 {
				right = api.ErrArg
			}
			what := fmt.Sprintf("P5.1: New(.., %d, %d)", link, levels)
			l, e := ladder.New(a, link, levels)
			want(t, what, []any{e, l == nil}, []any{right, right != api.OK})
			l, e = ladder.New[entry](nil, link, levels)
			want(t, what+" of no arena", []any{e, l == nil}, []any{api.ErrNil, true})
			l, e = ladder.New(&cells.Arena[entry]{}, link, levels)
			want(t, what+" of an arena that cells.New did not make", []any{e, l == nil}, []any{api.ErrNil, true})
		}
	}
	want(t, "P5.1: New makes no access", []any{a.Accesses(), a.Misses()}, []any{0, 0})
}

func TestNewIsEmpty(t *testing.T) {
	for levels := 1; levels <= 4; levels++ {
		w := newWorld(t, 3, levels, "a1", "b1")
		for v := range levels {
			w.holds("P5.1", v, 0)
			want(t, "P5.1: a head", w.ladder.Head(v), endWord)
		}
		want(t, "P5.2: accesses", []int{w.ladder.Accesses(), w.arena.Accesses()}, []int{0, 2})
	}
}

// The links of a slot are the cells from link on, whatever link is.
func TestEveryLinkCell(t *testing.T) {
	for link := range 13 {
		a, _ := cells.New[entry](1, 16)
		a.Alloc(entry{Name: "a", Tall: 3})
		l, _ := ladder.New(a, link, 4)
		for m := l.Insert(1); !m.Step(); {
		}
		var right [16]uint64
		right[link], right[link+1], right[link+2] = endWord, endWord, endWord
		want(t, "P5.5: the cells", pair(a.Peek(1)), pair(right, api.OK))
	}
}

func TestTwoLaddersShareTheArenaAlone(t *testing.T) {
	a, _ := cells.New[entry](3, 6)
	for _, key := range []string{"c", "a", "b"} {
		a.Alloc(entry{Name: key, Tall: 2})
	}
	x, _ := ladder.New(a, 0, 2)
	y, _ := ladder.New(a, 2, 4)
	run := func(m machine) {
		for !m.Step() {
		}
	}
	run(x.Insert(1))
	run(x.Insert(2))
	run(y.Insert(2))
	run(y.Insert(3))
	run(x.Remove(2))
	for v := range 2 {
		want(t, "P5.1: the first", pair(x.List(v)), pair([]int{1}, api.OK))
		want(t, "P5.1: the second", pair(y.List(v)), pair([]int{2, 3}, api.OK))
	}
	// x: two loads and two swaps; the same; two loads and two swaps that unlink. y: four loads and two swaps; three loads, and from then on from slot 2.
	want(t, "P5.2: heads", []int{x.Accesses(), y.Accesses()}, []int{4 + 4 + 4, 6 + 3})
}

func TestNoSuchLevel(t *testing.T) {
	for levels := 1; levels <= 4; levels++ {
		w := newWorld(t, 3, levels, "a1", "b1")
		w.put(1, 2)
		n := w.accesses()
		for _, v := range strange() {
			if v >= 0 && v < levels {
				continue
			}
			want(t, "P5.3: List", pair(w.ladder.List(v)), pair([]int(nil), api.ErrArg))
			want(t, "P5.3: Held", pair(w.ladder.Held(v)), pair(0, api.ErrArg))
		}
		want(t, "P5.3: accesses", w.accesses()-n, 0)
	}
}

func TestListGoesAlongMarkedOnes(t *testing.T) {
	w := newWorld(t, 5, 2, "a2", "b2", "c1", "d2", "e1")
	w.put(1, 2, 3, 4, 5)
	w.holds("P5.3", 0, 5, 1, 2, 3, 4, 5)
	w.holds("P5.3", 1, 3, 1, 2, 4)
	for _, s := range []int{1, 3, 5} {
		m := w.ladder.Remove(s)
		for marks := 0; marks == 0; marks = int(w.links(s)[0] % 2) {
			w.step(m)
		}
	}
	w.holds("P5.3: marked", 0, 5, 2, 4)
	w.holds("P5.3: marked", 1, 3, 2, 4)
	half := w.ladder.Remove(4)
	w.steps(half, 3)
	w.holds("P5.3: marked above alone", 1, 3, 2)
	w.holds("P5.3: marked above alone", 0, 5, 2, 4)
}

// What stands in links that nobody should have touched: List and Held stop where the chapter says.
func TestListStops(t *testing.T) {
	w := newWorld(t, 6, 2, "a2", "b1", "c1", "d1", "e1")
	w.put(1, 2, 3, 4)
	w.holds("P5.3", 0, 4, 1, 2, 3, 4)
	w.arena.Free(3)
	w.holds("P5.3: ahead of a slot that is not in use", 0, 2, 1, 2)
	for _, c := range []struct {
		word uint64
		held int
		list []int
	}{
		{2 * 6, 2, []int{1, 2}},
		{2 * 7, 2, []int{1, 2}},
		{2 * 4097, 2, []int{1, 2}},
		{2 * (endNumber - 1), 2, []int{1, 2}},
		{0, 2, []int{1, 2}},
		{1, 2, []int{1}},
		{endWord, 2, []int{1, 2}},
		{endWord + 1, 2, []int{1}},
		{2 * 5, 3, []int{1, 2, 5}},
		{2*5 + 1, 3, []int{1, 5}},
	} {
		w.set(2, 0, c.word)
		w.holds(fmt.Sprintf("P5.3: at the word %d", c.word), 0, c.held, c.list...)
	}
	w.holds("P5.3: another level", 1, 1, 1)
}

func TestListOfARing(t *testing.T) {
	w := newWorld(t, 7, 1, "a1", "b1", "c1")
	w.put(1, 2, 3)
	w.set(3, 0, 2*2+1) // 1, 2, 3 (marked), 2, 3, ..
	w.holds("P5.3: as many as the arena has slots", 0, 7, 1, 2, 2, 2)
	w.set(1, 0, 2*1)
	w.holds("P5.3: a slot that leads to itself", 0, 7, 1, 1, 1, 1, 1, 1, 1)
}

// Rows as long as an arena allows are not cut.
func TestListOfAllSlots(t *testing.T) {
	w := newWorld(t, 4096, 4)
	for range 4096 {
		w.alloc("k", 1)
	}
	for s := 4096; s > 0; s-- { // each to the front: a search from the head finds its place at once
		m := w.ladder.Insert(s)
		w.run(m)
	}
	list, _ := w.ladder.List(0)
	want(t, "P5.3: List", []int{len(list), list[0], list[4095]}, []int{4096, 1, 4096})
	want(t, "P5.3: Held", pair(w.ladder.Held(0)), pair(4096, api.OK))
	m := w.ladder.Remove(4096)
	want(t, "P5.10: steps of a Remove", w.run(m), 3+4+4096+1)
	want(t, "P5.3: Held", pair(w.ladder.Held(0)), pair(4095, api.OK))
	want(t, "P5.5: stops", len(w.stops(w.ladder.Walk(""))), 4095)
}

func TestHeadAccesses(t *testing.T) {
	w := newWorld(t, 4, 4, "b1", "a2", "c1")
	right := 0
	count := func(what string, more int) {
		t.Helper()
		right += more
		want(t, "P5.2: "+what, w.ladder.Accesses(), right)
	}
	w.put(1)
	count("an insert at the front", 4+1)
	w.put(2)
	count("one of height 2 at the front", 4+2)
	w.put(3)
	count("one behind", 3)
	w.stops(w.ladder.Walk(""))
	count("a walk", 4)
	w.stops(w.ladder.Walk("b"))
	count("a walk that goes down from a slot", 3)
	w.run(w.ladder.Remove(1))
	count("a removal in the midst", 3)
	w.run(w.ladder.Remove(2))
	count("a removal at the front", 4+2)
	w.run(w.ladder.Insert(3))
	w.run(w.ladder.Remove(9))
	count("what is refused", 0)
	w.ladder.Insert(3)
	w.ladder.Remove(3)
	w.ladder.Walk("")
	w.ladder.List(0)
	w.ladder.Held(0)
	count("what makes none", 0)
}
