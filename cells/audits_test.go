package cells_test

import (
	"fmt"
	"math/rand"
	"slices"
	"testing"

	"strata/api"
	"strata/cells"
)

// The examples 2 to 6 of the chapter, one behind the other.
func TestExamples(t *testing.T) {
	a := arena[string](t, 2, 3)
	want(t, "example 2", pair(a.Alloc("x", 7)), pair(1, api.OK))
	want(t, "example 2", pair(a.Peek(1)), pair([]uint64{7, 0, 0}, api.OK))
	want(t, "example 2", pair(a.Alloc("y", 1, 2, 3)), pair(2, api.OK))
	want(t, "example 2", pair(a.Alloc("z", 1, 2, 3, 4)), pair(0, api.ErrWords))
	want(t, "example 2", pair(a.Alloc("z")), pair(0, api.ErrFull))
	want(t, "example 2", a.Accesses(), 3)
	want(t, "example 3", []api.Errno{a.Free(2), a.Free(1), a.Free(1)}, []api.Errno{api.OK, api.OK, api.ErrSlot})
	want(t, "example 3", pair(a.Alloc("p")), pair(2, api.OK))
	want(t, "example 3", pair(a.Alloc("q")), pair(1, api.OK))
	want(t, "example 3", pair(a.Turn(1)), pair(2, api.OK))
	want(t, "example 3", a.Accesses(), 7)
	want(t, "example 4", a.Store(1, 2, 5), api.OK)
	want(t, "example 4", pair(a.CAS(1, 2, 4, 9)), pair(false, api.OK))
	want(t, "example 4", pair(a.CAS(1, 2, 5, 9)), pair(true, api.OK))
	want(t, "example 4", pair(a.Load(1, 2)), pair(9, api.OK))
	want(t, "example 4", pair(a.Load(1, 3)), pair(0, api.ErrCell))
	want(t, "example 4", pair(a.Load(3, 3)), pair(0, api.ErrSlot))
	want(t, "example 4", []int{a.Accesses(), a.Misses()}, []int{11, 2})
	want(t, "example 5", pair(a.Add(1, 2, 1<<64-4)), pair(9, api.OK))
	want(t, "example 5", pair(a.Load(1, 2)), pair(5, api.OK))
	want(t, "example 5", pair(a.AddAll(1, 2, 1, 2, 3)), pair(11, api.OK))
	want(t, "example 5", pair(a.AddAll(1, 2)), pair(11, api.OK))
	want(t, "example 5", a.Accesses(), 16)
	told := ""
	for slot, p := range a.All() {
		told += fmt.Sprint(slot, p, " ")
	}
	want(t, "example 6", told, "1q 2p ")
	want(t, "example 6", cells.Total(a, func(p string) int { return len(p) }), 2)
}

// Calls at random on small arenas answer as the chapter's words do, counts among them.
func TestAsTheModel(t *testing.T) {
	source := rand.New(rand.NewSource(3))
	for range 300 {
		slots, width := 1+source.Intn(4), 1+source.Intn(3)
		a, m := arena[int](t, slots, width), newModel(slots, width)
		for range 120 {
			c := anyCall(source, slots, width)
			if got, right := ask(a, c), ask(m, c); got != right {
				t.Fatalf("P2.1 to P2.12: %+v answers %q, want %q", c, got, right)
			}
			want(t, "P2.8: accesses and misses", []int{a.Accesses(), a.Misses()}, []int{m.accesses, m.misses})
		}
	}
}

func TestPeekAndLive(t *testing.T) {
	a := arena[int](t, 4, 2)
	if l := a.Live(); len(l) != 0 {
		t.Errorf("P2.11: Live() of a new arena = %v", l)
	}
	for range 4 {
		a.Alloc(0, 3)
	}
	a.Free(3)
	a.Free(1)
	want(t, "P2.11: Live", a.Live(), []int{2, 4})
	a.Alloc(0)
	want(t, "P2.11: Live is rising", a.Live(), []int{2, 3, 4})
	before := a.Accesses()
	for _, slot := range []int{-1 << 63, -1, 0, 1, 5, 1<<63 - 1} {
		want(t, "P2.9: Peek of what is not in use", pair(a.Peek(slot)), pair([]uint64(nil), api.ErrSlot))
	}
	want(t, "P2.9: Peek", pair(a.Peek(4)), pair([]uint64{3, 0}, api.OK))
	want(t, "P2.9: Peek and Live are neither accesses nor misses", []int{a.Accesses(), a.Misses()}, []int{before, 0})
}

func TestAll(t *testing.T) {
	a := arena[int](t, 4, 1)
	every := a.All()
	for range every {
		t.Error("P2.12: a new arena has no slot in use")
	}
	for i := range 3 {
		a.Alloc(10 + i)
	}
	before := a.Accesses()
	told := func() (told []int) {
		for slot, p := range every {
			told = append(told, slot, p)
		}
		return told
	}
	want(t, "P2.12: it begins anew", told(), []int{1, 10, 2, 11, 3, 12})
	want(t, "P2.12: no access", []int{a.Accesses(), a.Misses()}, []int{before, 0})
	var seen []int
	for slot, p := range every {
		seen = append(seen, slot, p)
		a.Free(slot)
		a.Free(3)
		a.Alloc(20 + slot)
	}
	want(t, "P2.12: what changes meanwhile is not seen", seen, []int{1, 10, 2, 11, 3, 12})
	want(t, "P2.12: but in the next ranging", told(), []int{1, 22, 3, 23, 4, 21})
	count := 0
	for range every {
		count++
		break
	}
	want(t, "P2.12: it ends early", count, 1)
	inner := 0
	for range every {
		for range every {
			inner++
		}
	}
	want(t, "P2.12: one ranging within another", inner, 9)
}

type weight int
type mass uint64

func TestTotal(t *testing.T) {
	a := arena[string](t, 4, 1)
	want(t, "P2.13: of none", cells.Total(a, func(string) int { return 5 }), 0)
	for _, p := range []string{"dddd", "", "bb", "c"} {
		a.Alloc(p)
	}
	a.Free(1)
	a.Free(3)
	a.Alloc("aaaaa")
	var order []string
	sum := cells.Total(a, func(p string) weight {
		order = append(order, p)
		return weight(len(p))
	})
	want(t, "P2.13: the sum", sum, weight(6))
	want(t, "P2.13: each once, rising by slot", order, []string{"aaaaa", "", "c"})
	want(t, "P2.13: it wraps", cells.Total(a, func(string) mass { return 1 << 63 }), mass(1<<63))
	want(t, "P2.13: it wraps", cells.Total(a, func(string) int { return 1<<63 - 1 }), 1<<63-3)
	want(t, "P2.13: below 0", cells.Total(a, func(p string) int { return -len(p) }), -6)
	want(t, "P2.13: no size", cells.Total[string, uint64](a, nil), 0)
	accesses := a.Accesses()
	cells.Total(a, func(p string) int { return 1 })
	want(t, "P2.13: no access", []int{a.Accesses(), a.Misses()}, []int{accesses, 0})
	asked := cells.Total(a, func(p string) int {
		a.Free(1)
		a.Free(4)
		a.Alloc("zz")
		return len(p)
	})
	want(t, "P2.13: what size does to the arena is not seen", asked, 6)
	want(t, "P2.13: but behind it", a.Live(), []int{2, 3, 4})
}

// run makes the same calls whatever the payloads are, and tells what was answered beside them.
func run[P any](t *testing.T, payloads ...P) []string {
	a := arena[P](t, 3, 2)
	var told []string
	tell := func(v ...any) { told = append(told, fmt.Sprint(v...)) }
	for round := range 40 {
		slot, e := a.Alloc(payloads[round%len(payloads)], uint64(round))
		tell(slot, e)
		_, e = a.Payload(round % 5)
		tell(e)
		tell(a.Add(round%5, round%3, 3))
		tell(a.CAS(round%4, 0, 3, 4))
		if round%3 > 0 {
			tell(a.Free(round % 4))
		}
		tell(a.Peek(round % 4))
		tell(a.Turn(round % 4))
		tell(a.Live(), a.Accesses(), a.Misses())
		for slot := range a.All() {
			tell(slot)
		}
	}
	return told
}

// Neither what a payload is nor whether it can be compared, nor what it holds, is seen in an answer.
func TestPayloadsAreNotLookedAt(t *testing.T) {
	first := run(t, 0)
	for name, other := range map[string][]string{
		"other numbers":    run(t, 1, -1, 1<<63-1),
		"texts":            run(t, "", "a"),
		"nothing":          run(t, struct{}{}),
		"entries":          run(t, api.Entry{}, api.Entry{Name: "a", Tall: 9}),
		"lists":            run(t, nil, []int{1}),
		"functions":        run(t, nil, func() { panic("a payload was called") }),
		"interfaces":       run[any](t, nil, map[string]int{}, []int{}),
		"pointers, maps":   run[map[string]int](t, nil, map[string]int{"a": 1}),
		"not a number":     run(t, 0.0/zero, 1),
		"an arena of them": run[*cells.Arena[int]](t, nil, new(cells.Arena[int])),
	} {
		if !slices.Equal(first, other) {
			t.Errorf("P2.15: with %s as payloads the answers are others", name)
		}
	}
}

var zero float64
