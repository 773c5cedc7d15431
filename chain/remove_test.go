package chain_test

import (
	"fmt"
	"testing"

	"strata/api"
)

func TestRemoveExamples(t *testing.T) {
	w := newWorld(t, 4, 3, 2)
	w.put(0, 1, 2, 3)
	m := w.index.Remove(0, 2)
	for i, right := range []struct {
		done, marked bool
		links        []uint64
		heads        int
	}{
		{false, false, []uint64{8194, 2, 4}, 6},
		{false, true, []uint64{8194, 3, 4}, 6},
		{false, true, []uint64{8194, 3, 4}, 7},
		{false, true, []uint64{8194, 3, 4}, 7},
		{false, true, []uint64{8194, 3, 4}, 7},
		{true, true, []uint64{8194, 3, 2}, 7},
	} {
		done := w.step(m)
		want(t, fmt.Sprintf("example 5: step %d", i+1), []any{done, m.Marked(), w.links(1, 2, 3), w.index.Accesses(), m.Helped(), m.Code()}, []any{right.done, right.marked, right.links, right.heads, 0, api.OK})
	}
	w.holds("example 5", 0, 2, 3, 1)

	a, b := w.index.Remove(0, 3), w.index.Remove(0, 1)
	for range 2 {
		w.step(a)
		w.step(b)
	}
	w.holds("example 6: both are marked", 0, 2)
	want(t, "example 6: the one of 1", []any{w.run(b), b.Helped(), b.Marked(), b.Code()}, []any{5, 1, true, api.OK})
	w.holds("example 6", 0, 0)
	want(t, "example 6: the one of 3", []any{w.run(a), a.Helped(), a.Marked(), a.Code()}, []any{1, 0, true, api.OK})
}

func TestRemoveOutOfAnotherBucket(t *testing.T) {
	w := newWorld(t, 1, 1, 2)
	w.put(0, 1)
	m := w.index.Remove(1, 1)
	want(t, "example 8", []any{w.run(m), m.Code(), m.Marked(), m.Helped()}, []any{3, api.OK, true, 0})
	w.holds("example 8", 0, 1)
	m = w.index.Remove(0, 1)
	want(t, "P4.7: out of its own", []any{w.run(m), m.Code(), m.Marked(), m.Helped()}, []any{4, api.OK, false, 0})
	w.holds("P4.7", 0, 0)
}

func TestRemoveAtEveryPlace(t *testing.T) {
	for i, right := range []struct {
		steps int
		list  []int
		links []uint64
	}{
		{7, []int{3, 2}, []uint64{8195, 8194, 4}},
		{6, []int{3, 1}, []uint64{8194, 3, 2}},
		{5, []int{2, 1}, []uint64{8194, 2, 5}},
	} {
		w := newWorld(t, 3, 3, 1)
		w.put(0, 1, 2, 3)
		m := w.index.Remove(0, i+1)
		want(t, "P4.7", []any{w.run(m), m.Code(), m.Marked(), m.Helped(), w.links(1, 2, 3)}, []any{right.steps, api.OK, true, 0, right.links})
		w.holds("P4.7", 0, 2, right.list...)
		n := w.accesses()
		want(t, "P4.11: a done one", []any{m.Step(), m.Step(), m.Code(), m.Marked(), m.Helped(), w.accesses() - n}, []any{true, true, api.OK, true, 0, 0})
	}
}

func TestRemoveOnceMore(t *testing.T) {
	w := newWorld(t, 3, 3, 1)
	w.put(0, 1, 2, 3)
	w.run(w.index.Remove(0, 2))
	m := w.index.Remove(0, 2)
	want(t, "P4.7: its mark is there", []any{w.run(m), m.Code(), m.Marked(), m.Helped()}, []any{4, api.OK, false, 0})
	w.holds("P4.7", 0, 2, 3, 1)
}

func TestRemoveIsRefused(t *testing.T) {
	w := newWorld(t, 4, 3, 2)
	w.put(1, 2)
	for _, bucket := range strange() {
		for _, slot := range strange() {
			right, accesses, misses := api.ErrBucket, 0, 0
			if bucket == 0 || bucket == 1 {
				switch slot {
				case 1, 3:
					right, accesses = api.ErrUnlinked, 1
				case 2:
					continue
				default:
					right, misses = api.ErrSlot, 1
				}
			}
			n, missed := w.accesses(), w.arena.Misses()
			m := w.index.Remove(bucket, slot)
			want(t, "P4.7: ahead of its first step", []any{m.Code(), m.Marked(), m.Helped()}, []any{api.OK, false, 0})
			want(t, fmt.Sprintf("P4.7: Remove(%d, %d)", bucket, slot), []any{w.run(m), m.Code(), m.Marked(), m.Helped(), w.accesses() - n, w.arena.Misses() - missed}, []any{1, right, false, 0, accesses, misses})
			want(t, "P4.11: once more", []any{w.step(m), m.Code(), w.accesses() - n, w.arena.Misses() - missed}, []any{true, right, accesses, misses})
		}
	}
	want(t, "P4.7: a refused one changes nothing", w.links(1, 2, 3), []uint64{0, 8196, 0})
}

func TestRemoveLooksAtItsFirstStep(t *testing.T) {
	w := newWorld(t, 1, 1, 1)
	m := w.index.Remove(0, 1)
	w.put(0, 1)
	want(t, "P4.7", []any{w.run(m), m.Code(), m.Marked()}, []any{5, api.OK, true})
}

// The swap by which the mark is put fails when another one comes between; who put it is told by Marked.
func TestTwoRemovesOfOneSlot(t *testing.T) {
	w := newWorld(t, 1, 1, 1)
	w.put(0, 1)
	a, b := w.index.Remove(0, 1), w.index.Remove(0, 1)
	w.step(a)
	w.step(b)
	want(t, "P4.7: the mark", []any{w.step(a), a.Marked(), w.step(b), b.Marked()}, []any{false, true, false, false})
	want(t, "P4.7: the second loads the link again", []any{w.step(b), b.Marked(), w.link(1)}, []any{false, false, 8195})
	want(t, "P4.7: the second takes it out", []any{w.run(b), b.Code(), b.Helped(), b.Marked()}, []any{3, api.OK, 0, false})
	want(t, "P4.7: the first finds nothing", []any{w.run(a), a.Code(), a.Helped(), a.Marked()}, []any{1, api.OK, 0, true})
}

// A link changes ahead of the mark: the slot behind is taken out.
func TestTheLinkChangesAheadOfTheMark(t *testing.T) {
	w := newWorld(t, 2, 2, 1)
	w.put(0, 1, 2)
	m := w.index.Remove(0, 2)
	w.step(m)
	w.run(w.index.Remove(0, 1))
	want(t, "P4.7: the swap fails", []any{w.step(m), m.Marked(), w.link(2)}, []any{false, false, 8194})
	want(t, "P4.7: from the link on", []any{w.run(m), m.Marked(), m.Code()}, []any{5, true, api.OK})
	w.holds("P4.7", 0, 0)
}

func TestRemoveHelps(t *testing.T) {
	w := newWorld(t, 5, 5, 1)
	w.put(0, 1, 2, 3, 4, 5)
	for _, s := range []int{1, 2, 4} {
		m := w.index.Remove(0, s)
		w.step(m)
		w.step(m)
	}
	m := w.index.Remove(0, 3)
	// Its own link twice, the head, the link of 5, 4's and a swap, its own and a swap.
	want(t, "P4.8: up to its own slot", []any{w.run(m), m.Helped(), m.Marked()}, []any{8, 1, true})
	w.holds("P4.8", 0, 3, 5)
	m = w.index.Remove(0, 5)
	want(t, "P4.8: at the front", []any{w.run(m), m.Helped()}, []any{5, 0})
	w.holds("P4.8", 0, 2)
	m = w.index.Remove(0, 4)
	// It is out of the list already: all that is marked up to the end is unlinked.
	want(t, "P4.8: of one that another has unlinked", []any{w.run(m), m.Helped(), m.Marked(), m.Code()}, []any{6, 2, false, api.OK})
	w.holds("P4.8", 0, 0)
}

// The place ahead changes between the loads and the swap: it begins anew at the head.
func TestRemoveBeginsAnew(t *testing.T) {
	w := newWorld(t, 4, 4, 1)
	w.put(0, 1, 2)
	m := w.index.Remove(0, 2)
	for range 4 {
		w.step(m)
	}
	w.put(0, 3)
	want(t, "P4.7: the head has changed", []any{w.step(m), m.Helped(), w.link(3)}, []any{false, 0, 4})
	want(t, "P4.7: from the head on", []any{w.run(m), m.Code(), w.link(3)}, []any{4, api.OK, 2})

	m = w.index.Remove(0, 1)
	for range 5 {
		w.step(m)
	}
	other := w.index.Remove(0, 3)
	w.step(other)
	w.step(other)
	want(t, "P4.7: the place ahead is marked", []any{w.step(m), m.Helped(), w.link(3)}, []any{false, 0, 3})
	want(t, "P4.7: it unlinks that one first", []any{w.run(m), m.Code(), m.Helped()}, []any{5, api.OK, 1})
	w.holds("P4.7", 0, 0)
	want(t, "P4.7: nothing is left", []any{w.run(other), other.Code(), other.Helped()}, []any{1, api.OK, 0})
}

func TestRemoveMeetsWhatIsNotLinked(t *testing.T) {
	for _, word := range []uint64{0, 1} {
		w := newWorld(t, 4, 3, 1)
		w.put(0, 1, 2, 3)
		w.arena.Store(2, cell, word)
		m := w.index.Remove(0, 1)
		want(t, "P4.7: a link of the number 0 on its way", []any{w.run(m), m.Code(), m.Marked(), m.Helped()}, []any{5, api.ErrUnlinked, true, 0})
		m = w.index.Remove(0, 2)
		right := []any{1, api.ErrUnlinked, false, 0}
		if word == 1 { // it has the mark, and is met as such from the head on
			right[0] = 4
		}
		want(t, "P4.7: its own link of the number 0", []any{w.run(m), m.Code(), m.Marked(), m.Helped()}, right)
		w.arena.Free(2)
		m = w.index.Remove(0, 1)
		want(t, "P4.7: a slot that was freed on its way", []any{w.run(m), m.Code(), m.Marked(), m.Helped()}, []any{4, api.ErrSlot, false, 0})
	}
}

func TestRemoveOfASlotThatIsFreedMeanwhile(t *testing.T) {
	for made, right := range [][]any{
		{1, api.ErrSlot, false}, {1, api.ErrSlot, false},
		{3, api.ErrSlot, true}, // behind the mark: the head, the link of 2, its own
		{2, api.ErrSlot, true}, {1, api.ErrSlot, true},
		{1, api.OK, true}, // the last swap is that of 2
	} {
		w := newWorld(t, 2, 2, 1)
		w.put(0, 1, 2)
		m := w.index.Remove(0, 1)
		for range made {
			w.step(m)
		}
		w.arena.Free(1)
		want(t, fmt.Sprintf("P4.7: freed behind step %d", made), []any{w.run(m), m.Code(), m.Marked()}, right)
	}
	w := newWorld(t, 2, 2, 1)
	w.put(0, 1, 2)
	m := w.index.Remove(0, 1)
	for range 5 {
		w.step(m)
	}
	w.arena.Free(2)
	want(t, "P4.7: the place ahead is freed", []any{w.run(m), m.Code(), m.Marked(), m.Helped()}, []any{1, api.ErrSlot, true, 0})
}

// Not the mark alone: what is unlinked is led past to what stands behind it, whatever that is.
func TestRemoveLeadsPast(t *testing.T) {
	w := newWorld(t, 3, 3, 2)
	w.put(0, 1, 2)
	w.arena.Store(1, cell, 2*4098)
	m := w.index.Remove(0, 1)
	want(t, "P4.7: another bucket's end", []any{w.run(m), m.Code(), w.links(1, 2)}, []any{6, api.OK, []uint64{2*4098 + 1, 2 * 4098}})
	m = w.index.Remove(0, 2)
	want(t, "P4.7: the head gets it", []any{w.run(m), m.Code()}, []any{5, api.OK})
	walk := w.index.Walk(0)
	want(t, "P4.6: a stray head", []any{walk.Step(), walk.Code()}, []any{true, api.ErrStray})
	w.put(0, 3)
	want(t, "P4.4: it is passed on", w.link(3), 2*4098)
}
