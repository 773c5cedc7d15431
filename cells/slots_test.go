package cells_test

import (
	"math"
	"testing"

	"strata/api"
	"strata/cells"
)

func TestNew(t *testing.T) {
	wrong := []int{math.MinInt, -4096, -1, 0, 4097, 1 << 16, 1 << 32, math.MaxInt}
	for _, n := range wrong {
		for _, right := range []int{1, 16} {
			if a, e := cells.New[string](n, right); a != nil || e != api.ErrShape {
				t.Errorf("P2.1: New(%d, %d) = %v, %d", n, right, a != nil, e)
			}
			if a, e := cells.New[string](right, n); a != nil || e != api.ErrShape {
				t.Errorf("P2.1: New(%d, %d) = %v, %d", right, n, a != nil, e)
			}
		}
		if a, e := cells.New[string](n, n); a != nil || e != api.ErrShape {
			t.Errorf("P2.1: New(%d, %d) = %v, %d", n, n, a != nil, e)
		}
	}
	if a, e := cells.New[int](1, 17); a != nil || e != api.ErrShape {
		t.Errorf("P2.1: New(1, 17) = %v, %d", a != nil, e)
	}
	for _, c := range [][2]int{{1, 1}, {1, 16}, {4096, 1}, {4096, 16}, {17, 3}} {
		a := arena[string](t, c[0], c[1])
		if slots, width := a.Shape(); slots != c[0] || width != c[1] {
			t.Errorf("P2.2: Shape() = %d, %d, want %v", slots, width, c)
		}
		if l := a.Live(); len(l) != 0 || a.Accesses() != 0 || a.Misses() != 0 {
			t.Errorf("P2.1: a new arena has %v in use, %d accesses, %d misses", l, a.Accesses(), a.Misses())
		}
		for slot := 1; slot <= c[0]; slot++ {
			if got, e := a.Alloc("p"); got != slot || e != api.OK {
				t.Fatalf("P2.1: Alloc of a new arena = %d, %d, want %d", got, e, slot)
			}
		}
		want(t, "P2.3: Alloc of a full one", pair(a.Alloc("p")), pair(0, api.ErrFull))
		want(t, "P2.2: Shape of a full one", pair2(a.Shape()), [2]int{c[0], c[1]})
	}
}

func pair2(a, b int) [2]int { return [2]int{a, b} }

func TestArenasShareNothing(t *testing.T) {
	a, b := arena[int](t, 2, 2), arena[int](t, 2, 2)
	a.Alloc(1, 5, 6)
	a.Store(1, 0, 7)
	a.Free(2)
	if len(b.Live()) != 0 || b.Accesses() != 0 || b.Misses() != 0 {
		t.Errorf("P2.1: what one arena did is seen in another: %v, %d, %d", b.Live(), b.Accesses(), b.Misses())
	}
	want(t, "P2.1: Turn of the other", pair(b.Turn(1)), pair(0, api.OK))
	want(t, "P2.1: Alloc of the other", pair(b.Alloc(2)), pair(1, api.OK))
	want(t, "P2.1: Peek of the other", pair(b.Peek(1)), pair([]uint64{0, 0}, api.OK))
}

func TestAlloc(t *testing.T) {
	a := arena[string](t, 3, 2)
	want(t, "P2.3: more words than cells", pair(a.Alloc("x", 1, 2, 3)), pair(0, api.ErrWords))
	want(t, "P2.3: 1000 words", pair(a.Alloc("x", make([]uint64, 1000)...)), pair(0, api.ErrWords))
	if a.Accesses() != 0 || len(a.Live()) != 0 {
		t.Error("P2.3: a refused Alloc changed something")
	}
	want(t, "P2.3: no words", pair(a.Alloc("a")), pair(1, api.OK))
	want(t, "P2.3: one word", pair(a.Alloc("b", 1<<64-1)), pair(2, api.OK))
	want(t, "P2.3: all words", pair(a.Alloc("c", 8, 9)), pair(3, api.OK))
	for slot, right := range []struct {
		payload string
		words   []uint64
	}{{"a", []uint64{0, 0}}, {"b", []uint64{1<<64 - 1, 0}}, {"c", []uint64{8, 9}}} {
		want(t, "P2.3: its payload", pair(a.Payload(slot+1)), pair(right.payload, api.OK))
		want(t, "P2.3: its cells", pair(a.Peek(slot+1)), pair(right.words, api.OK))
	}
	want(t, "P2.3: full and too many words", pair(a.Alloc("d", 1, 2, 3)), pair(0, api.ErrWords))
	want(t, "P2.8: accesses", a.Accesses(), 3)
	want(t, "P2.3: full", pair(a.Alloc("d", 1)), pair(0, api.ErrFull))
	want(t, "P2.8: a full Alloc is an access", a.Accesses(), 4)
	want(t, "P2.3: a full Alloc is no turn", a.Live(), []int{1, 2, 3})
}

func TestFree(t *testing.T) {
	a := arena[string](t, 4, 1)
	a.Alloc("a", 1)
	a.Alloc("b", 2)
	for _, slot := range []int{math.MinInt, -1, 0, 3, 4, 5, 4096, 1 << 32, math.MaxInt} {
		want(t, "P2.4: Free of what is not in use", a.Free(slot), api.ErrSlot)
	}
	want(t, "P2.8: misses", []int{a.Accesses(), a.Misses()}, []int{2, 9})
	want(t, "P2.4: Free", a.Free(1), api.OK)
	want(t, "P2.4: Free again", a.Free(1), api.ErrSlot)
	want(t, "P2.5: Payload of what is free", pair(a.Payload(1)), pair("", api.ErrSlot))
	want(t, "P2.6: Load of what is free", pair(a.Load(1, 0)), pair(0, api.ErrSlot))
	want(t, "P2.9: Peek of what is free", pair(a.Peek(1)), pair([]uint64(nil), api.ErrSlot))
	want(t, "P2.4: the others stay", pair(a.Payload(2)), pair("b", api.OK))
	for _, slot := range []int{3, 4, 1} {
		want(t, "P2.4: it stands at the back", pair(a.Alloc("c")), pair(slot, api.OK))
	}
	want(t, "P2.4: its cells are gone", pair(a.Peek(1)), pair([]uint64{0}, api.OK))
}

// Slots come back in the order in which they were freed, round and round.
func TestQueueOrder(t *testing.T) {
	a := arena[int](t, 5, 1)
	for range 5 {
		a.Alloc(0)
	}
	for round := range 40 {
		order := []int{round%5 + 1, (round+3)%5 + 1, (round+1)%5 + 1}
		for _, slot := range order {
			want(t, "P2.4: Free", a.Free(slot), api.OK)
		}
		for _, slot := range order {
			want(t, "P2.3: the front of the queue", pair(a.Alloc(round)), pair(slot, api.OK))
		}
	}
	want(t, "P2.3: full", pair(a.Alloc(0)), pair(0, api.ErrFull))
}

func TestPayload(t *testing.T) {
	a := arena[api.Entry](t, 2, 1)
	first := api.Entry{Name: "a", Data: "x", Tall: 2}
	a.Alloc(first, 3)
	a.Store(1, 0, 4)
	want(t, "P2.5: Payload", pair(a.Payload(1)), pair(first, api.OK))
	for _, slot := range []int{math.MinInt, -1, 0, 2, 3, math.MaxInt} {
		want(t, "P2.5: Payload of what is not in use", pair(a.Payload(slot)), pair(api.Entry{}, api.ErrSlot))
	}
	a.Free(1)
	want(t, "P2.5: of a freed one", pair(a.Payload(1)), pair(api.Entry{}, api.ErrSlot))
	want(t, "P2.8: Payload is no access", []int{a.Accesses(), a.Misses()}, []int{3, 7})
}

func TestTurn(t *testing.T) {
	a := arena[int](t, 2, 1)
	for _, slot := range []int{math.MinInt, -1, 0, 3, math.MaxInt} {
		want(t, "P2.10: Turn of no slot", pair(a.Turn(slot)), pair(0, api.ErrSlot))
	}
	want(t, "P2.10: Turn of a fresh slot", pair(a.Turn(2)), pair(0, api.OK))
	for n := range 5 {
		a.Alloc(n)
		want(t, "P2.10: in use", pair(a.Turn(n%2+1)), pair(n/2+1, api.OK))
		a.Free(n%2 + 1)
		want(t, "P2.10: free", pair(a.Turn(n%2+1)), pair(n/2+1, api.OK))
	}
	want(t, "P2.10: neither an access nor a miss", []int{a.Accesses(), a.Misses()}, []int{10, 0})
}
