package cells_test

import (
	"math"
	"slices"
	"testing"

	"strata/api"
	"strata/cells"
)

// refuses makes the calls on a cell and tells whether each answered that error, and zero beside it.
func refuses(a *cells.Arena[string], slot, cell int, right api.Errno) bool {
	v, e1 := a.Load(slot, cell)
	e2 := a.Store(slot, cell, 9)
	ok, e3 := a.CAS(slot, cell, 7, 9)
	again, e4 := a.CAS(slot, cell, 0, 9)
	w, e5 := a.Add(slot, cell, 9)
	u, e6 := a.AddAll(slot, cell, 9, 9)
	n, e7 := a.AddAll(slot, cell)
	for _, e := range []api.Errno{e1, e2, e3, e4, e5, e6, e7} {
		if e != right {
			return false
		}
	}
	return v == 0 && !ok && !again && w == 0 && u == 0 && n == 0
}

func TestWrongPlaces(t *testing.T) {
	a := arena[string](t, 3, 2)
	a.Alloc("x", 7, 7)
	a.Alloc("y", 7, 7)
	a.Alloc("z", 7, 7)
	a.Free(2)
	far := []int{math.MinInt, -1 << 32, -2, -1, 4, 5, 1 << 31, 1 << 32, 1 << 62, math.MaxInt}
	for _, slot := range append(slices.Clone(far), 0, 2) {
		for _, cell := range append(slices.Clone(far), 0, 1, 2) {
			if !refuses(a, slot, cell, api.ErrSlot) {
				t.Errorf("P2.6: cell %d of slot %d, not in use, is not refused as ErrSlot", cell, slot)
			}
		}
	}
	want(t, "P2.8: misses", []int{a.Accesses(), a.Misses()}, []int{4, 12 * 13 * 7})
	for _, slot := range []int{1, 3} {
		for _, cell := range append(slices.Clone(far), 2, 3) {
			if !refuses(a, slot, cell, api.ErrCell) {
				t.Errorf("P2.6: cell %d of slot %d is not refused as ErrCell", cell, slot)
			}
		}
		want(t, "P2.6: a refused call changed a cell", pair(a.Peek(slot)), pair([]uint64{7, 7}, api.OK))
	}
	want(t, "P2.8: ErrCell is neither an access nor a miss", []int{a.Accesses(), a.Misses()}, []int{4, 12 * 13 * 7})
	a.Alloc("y")
	want(t, "P2.6: a refused call changed what was free", pair(a.Peek(2)), pair([]uint64{0, 0}, api.OK))
}

func TestCellsOneByOne(t *testing.T) {
	a := arena[string](t, 2, 3)
	a.Alloc("x", 1, 2, 3)
	a.Alloc("y", 4, 5, 6)
	want(t, "P2.6: Load", pair(a.Load(2, 0)), pair(4, api.OK))
	want(t, "P2.6: Store", a.Store(1, 2, 1<<64-1), api.OK)
	want(t, "P2.6: Load", pair(a.Load(1, 2)), pair(uint64(1<<64-1), api.OK))
	want(t, "P2.6: CAS of another word", pair(a.CAS(1, 2, 3, 8)), pair(false, api.OK))
	want(t, "P2.6: CAS that swaps", pair(a.CAS(1, 2, 1<<64-1, 8)), pair(true, api.OK))
	want(t, "P2.6: CAS of the same word", pair(a.CAS(1, 2, 8, 8)), pair(true, api.OK))
	want(t, "P2.6: CAS to the same other word", pair(a.CAS(1, 2, 9, 9)), pair(false, api.OK))
	want(t, "P2.6: Add", pair(a.Add(2, 1, 10)), pair(5, api.OK))
	want(t, "P2.6: Add wraps", pair(a.Add(2, 1, 1<<64-16)), pair(15, api.OK))
	want(t, "P2.6: Add of 0", pair(a.Add(2, 1, 0)), pair(uint64(1<<64-1), api.OK))
	want(t, "P2.6: Add wraps", pair(a.Add(2, 1, 2)), pair(uint64(1<<64-1), api.OK))
	want(t, "P2.6: the cells of 1", pair(a.Peek(1)), pair([]uint64{1, 2, 8}, api.OK))
	want(t, "P2.6: the cells of 2", pair(a.Peek(2)), pair([]uint64{4, 1, 6}, api.OK))
	want(t, "P2.8: each is an access", []int{a.Accesses(), a.Misses()}, []int{13, 0})
}

func TestAddAll(t *testing.T) {
	a := arena[string](t, 2, 2)
	a.Alloc("x", 5, 6)
	want(t, "P2.7: of none", pair(a.AddAll(1, 0)), pair(5, api.OK))
	want(t, "P2.7: of none it makes no access", a.Accesses(), 1)
	want(t, "P2.7: of one", pair(a.AddAll(1, 0, 2)), pair(7, api.OK))
	want(t, "P2.7: it wraps", pair(a.AddAll(1, 0, 1<<63, 1<<63, 1<<64-8)), pair(uint64(1<<64-1), api.OK))
	want(t, "P2.8: an access for each delta", a.Accesses(), 5)
	most := make([]uint64, 64)
	for i := range most {
		most[i] = 1 << i
	}
	want(t, "P2.7: of 64", pair(a.AddAll(1, 1, most...)), pair(5, api.OK))
	want(t, "P2.8: an access for each of 64", a.Accesses(), 69)
	for _, n := range []int{65, 66, 128, 5000} {
		for _, slot := range []int{1, 2, 0, -1, math.MaxInt} {
			for _, cell := range []int{0, 1, 2, -1, math.MinInt} {
				want(t, "P2.7: too many", pair(a.AddAll(slot, cell, make([]uint64, n)...)), pair(0, api.ErrWords))
			}
		}
	}
	want(t, "P2.7: too many deltas are neither accesses nor misses", []int{a.Accesses(), a.Misses()}, []int{69, 0})
	want(t, "P2.7: no slot", pair(a.AddAll(2, 9, most...)), pair(0, api.ErrSlot))
	want(t, "P2.7: no cell", pair(a.AddAll(1, 2, most...)), pair(0, api.ErrCell))
	want(t, "P2.8: one call is one miss", []int{a.Accesses(), a.Misses()}, []int{69, 1})
	want(t, "P2.7: the cells", pair(a.Peek(1)), pair([]uint64{1<<64 - 1, 5}, api.OK))
}
