package chain_test

import (
	"testing"

	"strata/api"
	"strata/cells"
	"strata/chain"
)

func TestNewIsRefused(t *testing.T) {
	a, _ := cells.New[int](2, 3)
	for _, link := range strange() {
		for _, buckets := range strange() {
			right := api.OK
			switch {
			case link < 0 || link > 2:
				right = api.ErrCell
			case buckets < 1 || buckets > 256:
				right = api.ErrBucket
			}
			x, e := chain.New(a, link, buckets)
			want(t, "P4.1: New", []any{e, x == nil}, []any{right, right != api.OK})
			if e == api.OK {
				want(t, "P4.2: Buckets", x.Buckets(), buckets)
			}
			x, e = chain.New[int](nil, link, buckets)
			want(t, "P4.1: New of no arena", []any{x == nil, e}, []any{true, api.ErrNil})
			x, e = chain.New(&cells.Arena[int]{}, link, buckets)
			want(t, "P4.1: New of an arena that cells.New did not make", []any{x == nil, e}, []any{true, api.ErrCell})
		}
	}
	want(t, "P4.1: New makes no access", []any{a.Accesses(), a.Misses()}, []any{0, 0})
}

func TestNewHoldsNothing(t *testing.T) {
	w := newWorld(t, 3, 2, 256)
	for b := range 256 {
		w.holds("P4.1", b, 0)
	}
	want(t, "P4.2: accesses to the heads", w.index.Accesses(), 0)
	want(t, "P4.1: accesses to the arena", w.arena.Accesses(), 2)
}

func TestEveryLinkCell(t *testing.T) {
	for link := range 16 {
		a, _ := cells.New[int](1, 16)
		a.Alloc(0)
		x, _ := chain.New(a, link, 256)
		for m := x.Insert(255, 1); !m.Step(); {
		}
		var right [16]uint64
		right[link] = 2 * (4096 + 1 + 255)
		want(t, "P4.4: the cells", pair(a.Peek(1)), pair(right, api.OK))
	}
}

func TestTwoIndexesShareTheArenaAlone(t *testing.T) {
	a, _ := cells.New[string](3, 2)
	for range 3 {
		a.Alloc("")
	}
	x, _ := chain.New(a, 0, 2)
	y, _ := chain.New(a, 1, 2)
	run := func(m machine) {
		for !m.Step() {
		}
	}
	run(x.Insert(0, 1))
	run(x.Insert(0, 2))
	run(y.Insert(0, 2))
	run(y.Insert(0, 1))
	run(x.Remove(0, 2))
	want(t, "P4.1: the first", pair(x.List(0)), pair([]int{1}, api.OK))
	want(t, "P4.1: the second", pair(y.List(0)), pair([]int{1, 2}, api.OK))
	want(t, "P4.2: heads", []int{x.Accesses(), y.Accesses()}, []int{2 + 2 + 2, 2 + 2})
}

func TestNoSuchBucket(t *testing.T) {
	w := newWorld(t, 3, 3, 3)
	for _, b := range strange() {
		if b >= 0 && b < 3 {
			continue
		}
		want(t, "P4.3: List", pair(w.index.List(b)), pair([]int(nil), api.ErrBucket))
		want(t, "P4.3: Held", pair(w.index.Held(b)), pair(0, api.ErrBucket))
	}
}

// What stands in link cells that nobody should have touched: List and Held stop where the chapter says.
func TestListStops(t *testing.T) {
	w := newWorld(t, 6, 5, 2)
	w.put(0, 1, 2, 3, 4)
	w.holds("P4.3", 0, 4, 4, 3, 2, 1)

	w.arena.Free(2)
	w.holds("P4.3: ahead of a slot that is not in use", 0, 2, 4, 3)
	w.arena.Store(3, cell, 2*7)
	w.holds("P4.3: ahead of a slot that the arena does not have", 0, 2, 4, 3)
	w.arena.Store(3, cell, 2*4096)
	w.holds("P4.3: ahead of the last number that is no end", 0, 2, 4, 3)
	w.arena.Store(3, cell, 0)
	w.holds("P4.3: behind the number 0", 0, 2, 4, 3)
	w.arena.Store(3, cell, 1)
	w.holds("P4.3: behind the number 0, marked", 0, 2, 4)
	w.arena.Store(3, cell, 2*4098)
	w.holds("P4.3: another bucket's end", 0, 2, 4, 3)
	w.arena.Store(3, cell, 2*(1<<31-1)+1)
	w.holds("P4.3: an end of no bucket, marked", 0, 2, 4)
	w.arena.Store(3, cell, 2*5)
	w.holds("P4.3: into a slot that was never linked", 0, 3, 4, 3, 5)
}

func TestListOfARing(t *testing.T) {
	w := newWorld(t, 4, 4, 1)
	w.put(0, 1, 2, 3)
	w.arena.Store(1, cell, 2*2+1) // 3, 2, 1 (marked), 2, 1, ..
	list, e := w.index.List(0)
	want(t, "P4.3: List", []any{len(list), e, list[:5]}, []any{1 + 2048, api.OK, []int{3, 2, 2, 2, 2}})
	want(t, "P4.3: Held", pair(w.index.Held(0)), pair(4096, api.OK))
	w.arena.Store(3, cell, 2*3)
	list, e = w.index.List(0)
	want(t, "P4.3: List of a slot that leads to itself", []any{len(list), e}, []any{4096, api.OK})
}

// Lists as long as an arena allows are not cut.
func TestListOfAllSlots(t *testing.T) {
	w := newWorld(t, 4096, 4096, 1)
	for s := range 4096 {
		m := w.index.Insert(0, s+1)
		w.run(m)
	}
	list, _ := w.index.List(0)
	want(t, "P4.3: List", []int{len(list), list[0], list[4095]}, []int{4096, 4096, 1})
	want(t, "P4.3: Held", pair(w.index.Held(0)), pair(4096, api.OK))
	m := w.index.Remove(0, 1)
	want(t, "P4.10: steps of a Remove", w.run(m), 2+1+4096+1)
	want(t, "P4.3: Held", pair(w.index.Held(0)), pair(4095, api.OK))
	want(t, "P4.6: stops", len(w.stops(w.index.Walk(0))), 4095)
}

func TestHeadAccesses(t *testing.T) {
	w := newWorld(t, 4, 4, 2)
	w.put(0, 1, 2, 3)
	want(t, "P4.2: three inserts", w.index.Accesses(), 6)
	w.stops(w.index.Walk(0))
	want(t, "P4.2: a walk", w.index.Accesses(), 7)
	w.stops(w.index.Behind(3))
	want(t, "P4.2: a walk behind a slot", w.index.Accesses(), 7)
	w.run(w.index.Remove(0, 2))
	want(t, "P4.2: a removal in the midst", w.index.Accesses(), 8)
	w.run(w.index.Remove(0, 3))
	want(t, "P4.2: a removal at the front", w.index.Accesses(), 10)
	slow, fast := w.index.Insert(1, 4), w.index.Insert(0, 4)
	w.step(slow)
	w.step(slow)
	w.step(slow)
	want(t, "P4.2: a load", w.index.Accesses(), 11)
	w.run(fast)
	want(t, "P4.4: put into one bucket while it is put into another", fast.Code(), api.ErrLinked)
	w.run(slow)
	want(t, "P4.2: a swap", w.index.Accesses(), 12)
}
