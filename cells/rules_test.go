package cells_test

import (
	"fmt"
	"math"
	"runtime"
	"slices"
	"testing"
	"time"
	"weak"

	"strata/api"
	"strata/cells"
)

func places() []int {
	return []int{math.MinInt, -1 << 32, -17, -1, 0, 1, 2, 3, 16, 17, 4096, 4097, 1 << 31, 1 << 32, 1 << 60, math.MaxInt}
}

// A nil arena and the zero one answer ErrNil ahead of all else, and nothing.
func TestNoArena(t *testing.T) {
	refused, _ := cells.New[int](0, 1)
	for name, a := range map[string]*cells.Arena[int]{"nil": nil, "zero": new(cells.Arena[int]), "refused": refused} {
		for kind := range asks {
			for _, n := range places() {
				c := call{kind: kind, slot: n, cell: n, words: make([]uint64, max(0, min(n, 1000)))}
				want(t, name+" arena", ask(a, c), nothing(kind))
			}
		}
		asked := 0
		size := func(int) int { asked++; return 1 }
		want(t, "P2.13: "+name+" arena", cells.Total(a, size)+asked, 0)
		want(t, "P2.13: "+name+" arena and no size", cells.Total[int, int](a, nil), 0)
	}
}

// nothing is what a call of no arena answers.
func nothing(kind int) string {
	e := api.ErrNil
	return []string{
		fmt.Sprint("Alloc ", 0, e), fmt.Sprint("Free ", e), fmt.Sprint("Payload ", 0, e),
		fmt.Sprint("Load ", 0, e), fmt.Sprint("Store ", e), fmt.Sprint("CAS ", false, e),
		fmt.Sprint("Add ", 0, e), fmt.Sprint("AddAll ", 0, e),
		"Accesses 0", "Misses 0", fmt.Sprint("Peek ", []uint64{}, e), fmt.Sprint("Turn ", 0, e),
		"Live []", "All", fmt.Sprint("Shape ", 0, 0),
	}[kind]
}

func TestNoCallPanics(t *testing.T) {
	for _, shape := range [][2]int{{1, 1}, {3, 2}, {4096, 16}} {
		a := arena[int](t, shape[0], shape[1])
		a.Alloc(1)
		for _, slot := range places() {
			for _, cell := range places() {
				for kind := range asks {
					for _, words := range [][]uint64{nil, {}, {1}, make([]uint64, 17), make([]uint64, 65), make([]uint64, 5000)} {
						ask(a, call{kind: kind, slot: slot, cell: cell, words: words})
					}
				}
			}
		}
	}
	for _, slots := range places() {
		for _, width := range places() {
			cells.New[int](slots, width)
		}
	}
}

// What is handed in keeps its elements and the room behind them, and is not kept.
func TestListsAreNotChangedAndNotKept(t *testing.T) {
	a := arena[int](t, 2, 4)
	given := []uint64{1, 2, 77, 78}
	a.Alloc(0, given[:2]...)
	a.Store(1, 0, 5)
	a.Add(1, 1, 5)
	want(t, "P0.1: a list of words was changed", given, []uint64{1, 2, 77, 78})
	given[0], given[1] = 40, 41
	want(t, "P0.1: a list of words was kept", pair(a.Peek(1)), pair([]uint64{5, 7, 0, 0}, api.OK))
	deltas := []uint64{1, 2, 3, 99}
	a.AddAll(1, 2, deltas[:3]...)
	want(t, "P0.1: a list of deltas was changed", deltas, []uint64{1, 2, 3, 99})
}

// Nothing that is written into an answer, or behind it, is seen in another one or in the arena.
func TestAnswersAreNewMemory(t *testing.T) {
	a := arena[int](t, 3, 3)
	a.Alloc(0, 1, 2, 3)
	a.Alloc(0, 4, 5, 6)
	first, _ := a.Peek(1)
	second, _ := a.Peek(1)
	for i := range first[:cap(first)] {
		first[:cap(first)][i] = 99
	}
	want(t, "P0.1: another Peek", second, []uint64{1, 2, 3})
	want(t, "P0.1: a later Peek", pair(a.Peek(1)), pair([]uint64{1, 2, 3}, api.OK))
	want(t, "P0.1: the neighbour", pair(a.Peek(2)), pair([]uint64{4, 5, 6}, api.OK))
	live, other := a.Live(), a.Live()
	for i := range live[:cap(live)] {
		live[:cap(live)][i] = 99
	}
	want(t, "P0.1: another Live", other, []int{1, 2})
	want(t, "P0.1: a later Live", a.Live(), []int{1, 2})
	if l := append(other, 7); !slices.Equal(l, []int{1, 2, 7}) || !slices.Equal(a.Live(), []int{1, 2}) {
		t.Error("P0.1: what is appended to a list is seen elsewhere")
	}
}

func TestGoroutinesHaveEnded(t *testing.T) {
	a := arena[int](t, 1, 1)
	a.Alloc(0)
	before := runtime.NumGoroutine()
	for range 200 {
		a.AddAll(1, 0, make([]uint64, 64)...)
		// One that has said it is done may still be on its way out.
		for wait := 0; wait < 5000 && runtime.NumGoroutine() > before; wait++ {
			time.Sleep(time.Millisecond)
		}
		if n := runtime.NumGoroutine(); n > before {
			t.Fatalf("P0.1: %d goroutines more behind AddAll", n-before)
		}
	}
}

// A slot that is free keeps nothing of its payload alive.
func TestFreedPayloadsAreLetGo(t *testing.T) {
	a := arena[*[1000]int](t, 1, 1)
	p := new([1000]int)
	held := weak.Make(p)
	a.Alloc(p)
	a.Free(1)
	p = nil
	runtime.GC()
	if held.Value() != nil {
		t.Error("P2.4: a freed slot still holds its payload")
	}
	runtime.KeepAlive(a)
}
