package chain_test

import (
	"fmt"
	"testing"

	"strata/api"
	"strata/chain"
)

// stand is what a walk tells behind a step.
type stand struct {
	arrived bool
	slot    int
	ended   bool
	code    api.Errno
}

// path steps a walk and holds what it tells against the right ones; each but those marked free makes one access.
func (w *world) path(what string, m *chain.Walk[string], right ...stand) {
	w.t.Helper()
	want(w.t, what+": at first", []any{m.Slot(), m.Ended(), m.Code()}, []any{0, false, api.OK})
	for i, r := range right {
		n, over := w.accesses(), m.Ended()
		got := stand{w.step(m), m.Slot(), m.Ended(), m.Code()}
		want(w.t, fmt.Sprintf("%s: step %d", what, i+1), got, r)
		bad := r.code != api.OK && r.code != api.ErrStray && r.code != api.ErrUnlinked
		if made := w.accesses() - n; made != 1 && !over && !bad || made != 0 && (over || bad) {
			w.t.Errorf("P4.11: %s: step %d made %d accesses", what, i+1, made)
		}
	}
}

func TestWalkExamples(t *testing.T) {
	w := newWorld(t, 4, 3, 2)
	w.put(0, 1, 2, 3)
	w.path("example 3", w.index.Walk(0), stand{false, 0, false, api.OK}, stand{true, 3, false, api.OK}, stand{true, 2, false, api.OK}, stand{true, 1, true, api.OK}, stand{true, 0, true, api.OK}, stand{true, 0, true, api.OK})
	w.path("example 4", w.index.Walk(1), stand{true, 0, true, api.OK}, stand{true, 0, true, api.OK})
}

func TestWalkBehind(t *testing.T) {
	w := newWorld(t, 5, 4, 2)
	w.put(0, 1, 2, 3)
	w.path("P4.6: behind the first", w.index.Behind(3), stand{false, 0, false, api.OK}, stand{true, 2, false, api.OK}, stand{true, 1, true, api.OK}, stand{true, 0, true, api.OK})
	w.path("P4.6: behind the last", w.index.Behind(1), stand{true, 0, true, api.OK}, stand{true, 0, true, api.OK})
	w.path("P4.6: behind one that was never linked", w.index.Behind(4), stand{true, 0, true, api.ErrUnlinked}, stand{true, 0, true, api.ErrUnlinked})
	w.path("P4.6: behind a free slot", w.index.Behind(5), stand{true, 0, true, api.ErrSlot}, stand{true, 0, true, api.ErrSlot})
	w.run(w.index.Remove(0, 2))
	w.path("P4.6: behind a removed one", w.index.Behind(2), stand{false, 0, false, api.OK}, stand{true, 1, true, api.OK}, stand{true, 0, true, api.OK})
	w.run(w.index.Remove(0, 1))
	w.path("P4.6: behind it and past another", w.index.Behind(2), stand{false, 0, false, api.OK}, stand{true, 0, true, api.OK})
}

func TestWalkIsRefused(t *testing.T) {
	w := newWorld(t, 4, 3, 2)
	for _, n := range strange() {
		if n < 0 || n > 1 {
			w.path(fmt.Sprintf("P4.6: Walk(%d)", n), w.index.Walk(n), stand{true, 0, true, api.ErrBucket}, stand{true, 0, true, api.ErrBucket})
		}
		if n < 1 || n > 3 {
			w.path(fmt.Sprintf("P4.6: Behind(%d)", n), w.index.Behind(n), stand{true, 0, true, api.ErrSlot}, stand{true, 0, true, api.ErrSlot})
		}
	}
}

func TestWalkPastMarkedSlots(t *testing.T) {
	w := newWorld(t, 4, 4, 1)
	w.put(0, 1, 2, 3, 4)
	for _, s := range []int{4, 3, 1} {
		m := w.index.Remove(0, s)
		w.step(m)
		w.step(m)
	}
	w.holds("P4.3: marked and linked", 0, 4, 2)
	w.path("P4.6: past them", w.index.Walk(0), stand{false, 0, false, api.OK}, stand{false, 0, false, api.OK}, stand{false, 0, false, api.OK}, stand{true, 2, false, api.OK}, stand{true, 0, true, api.OK}, stand{true, 0, true, api.OK})
	w.path("P4.6: behind a marked one", w.index.Behind(3), stand{false, 0, false, api.OK}, stand{true, 2, false, api.OK}, stand{true, 0, true, api.OK})
}

// A walk that stood at a slot leaves it when the next one is marked.
func TestWalkLeavesWhereItStood(t *testing.T) {
	w := newWorld(t, 3, 3, 1)
	w.put(0, 1, 2, 3)
	walk := w.index.Walk(0)
	w.step(walk)
	w.step(walk)
	w.run(w.index.Remove(0, 2))
	want(t, "P4.6: at a slot whose next is taken out", []any{walk.Slot(), walk.Ended()}, []any{3, false})
	want(t, "P4.6: past it", []any{w.step(walk), walk.Slot()}, []any{false, 0})
	want(t, "P4.6: at the last", []any{w.step(walk), walk.Slot(), walk.Ended()}, []any{true, 1, true})
}

func TestWalkDoesNotSeeWhatComesAhead(t *testing.T) {
	w := newWorld(t, 3, 3, 1)
	w.put(0, 1)
	walk := w.index.Walk(0)
	w.step(walk)
	w.put(0, 2)
	want(t, "P4.6", w.stops(walk), []int{1})
	walk = w.index.Walk(0)
	w.put(0, 3)
	want(t, "P4.6: begun, and not stepped", w.stops(walk), []int{3, 2, 1})
}

func TestWalkStrays(t *testing.T) {
	w := newWorld(t, 3, 2, 3)
	w.put(0, 1, 2)
	for _, end := range []uint64{4098, 4099, 5000, 1<<31 - 1} {
		w.arena.Store(1, cell, 2*end)
		w.path("P4.6: a stray end", w.index.Walk(0), stand{false, 0, false, api.OK}, stand{true, 2, false, api.OK}, stand{true, 1, true, api.ErrStray}, stand{true, 0, true, api.ErrStray})
		w.path("P4.6: Behind knows no stray end", w.index.Behind(2), stand{false, 0, false, api.OK}, stand{true, 1, true, api.OK}, stand{true, 0, true, api.OK})
		w.arena.Store(1, cell, 2*end+1)
		w.path("P4.6: a stray end, marked", w.index.Walk(0), stand{false, 0, false, api.OK}, stand{true, 2, false, api.OK}, stand{true, 0, true, api.ErrStray})
		w.path("P4.6: behind a marked last one", w.index.Behind(1), stand{true, 0, true, api.OK})
	}
}

func TestWalkMeetsWhatIsNotLinked(t *testing.T) {
	w := newWorld(t, 4, 3, 1)
	w.put(0, 1, 2)
	for _, word := range []uint64{0, 1} {
		w.arena.Store(1, cell, word)
		w.path("P4.6: a link of the number 0", w.index.Walk(0), stand{false, 0, false, api.OK}, stand{true, 2, false, api.OK}, stand{true, 0, true, api.ErrUnlinked}, stand{true, 0, true, api.ErrUnlinked})
		w.path("P4.6: Behind it", w.index.Behind(1), stand{true, 0, true, api.ErrUnlinked})
	}
	w.arena.Free(1)
	w.path("P4.6: a slot that was freed", w.index.Walk(0), stand{false, 0, false, api.OK}, stand{true, 2, false, api.OK}, stand{true, 0, true, api.ErrSlot}, stand{true, 0, true, api.ErrSlot})
	w.path("P4.6: Behind, and a slot that was freed", w.index.Behind(2), stand{false, 0, false, api.OK}, stand{true, 0, true, api.ErrSlot})
	w.arena.Free(2)
	w.path("P4.6: the first was freed", w.index.Walk(0), stand{false, 0, false, api.OK}, stand{true, 0, true, api.ErrSlot})
	w.arena.Store(3, cell, 2*4096)
	w.path("P4.6: the greatest number that is no end", w.index.Behind(3), stand{false, 0, false, api.OK}, stand{true, 0, true, api.ErrSlot})
	w.arena.Store(3, cell, 2*4097)
	w.path("P4.6: the least end", w.index.Behind(3), stand{true, 0, true, api.OK})
}

// The head of a bucket may come to another one's end by a slot that was freed while it was linked and put in elsewhere.
func TestWalkOfAStrayHead(t *testing.T) {
	w := newWorld(t, 1, 1, 2)
	w.put(0, 1)
	w.arena.Free(1)
	w.alloc()
	w.put(1, 1)
	m := w.index.Remove(0, 1)
	want(t, "P4.7: out of the wrong bucket", []any{w.run(m), m.Code(), m.Marked()}, []any{5, api.OK, true})
	w.path("P4.6: a stray head", w.index.Walk(0), stand{true, 0, true, api.ErrStray}, stand{true, 0, true, api.ErrStray})
	w.holds("P4.3: it holds nothing", 0, 0)
	w.holds("P4.3: the other bucket", 1, 1)
}
