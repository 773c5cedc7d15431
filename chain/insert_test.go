package chain_test

import (
	"fmt"
	"testing"

	"strata/api"
	"strata/sched"
)

func TestInsertOneByOne(t *testing.T) {
	w := newWorld(t, 4, 3, 2)
	m := w.index.Insert(0, 1)
	want(t, "P4.4: ahead of its first step", []any{m.Code(), m.Tries(), w.link(1)}, []any{api.OK, 0, 0})
	for i, right := range []struct {
		done        bool
		link        uint64
		heads, held int
	}{{false, 0, 0, 0}, {false, 0, 1, 0}, {false, 8194, 1, 0}, {true, 8194, 2, 1}} {
		done := w.step(m)
		held, _ := w.index.Held(0)
		want(t, fmt.Sprintf("P4.4: step %d", i+1), []any{done, m.Code(), w.link(1), w.index.Accesses(), held}, []any{right.done, api.OK, right.link, right.heads, right.held})
	}
	n := w.accesses()
	want(t, "P4.11: a done one", []any{m.Step(), m.Step(), m.Code(), w.accesses() - n}, []any{true, true, api.OK, 0})
}

func TestInsertExamples(t *testing.T) {
	w := newWorld(t, 4, 3, 2)
	w.put(0, 1, 2, 3)
	w.holds("example 1", 0, 3, 3, 2, 1)
	w.holds("example 1", 1, 0)
	want(t, "example 1: links", w.links(1, 2, 3), []uint64{8194, 2, 4})
	want(t, "example 1: accesses", w.index.Accesses(), 6)
	for _, c := range []struct {
		bucket, slot int
		right        api.Errno
	}{{0, 1, api.ErrLinked}, {1, 1, api.ErrLinked}, {2, 4, api.ErrBucket}, {0, 4, api.ErrSlot}} {
		m := w.index.Insert(c.bucket, c.slot)
		want(t, fmt.Sprintf("example 2: Insert(%d, %d)", c.bucket, c.slot), []any{w.run(m), m.Code(), m.Tries()}, []any{1, c.right, 0})
	}
	w.holds("example 2", 0, 3, 3, 2, 1)
}

func TestInsertIsRefused(t *testing.T) {
	w := newWorld(t, 4, 3, 2)
	w.put(1, 2)
	before := w.links(1, 2, 3)
	for _, bucket := range strange() {
		for _, slot := range strange() {
			right, accesses, misses := api.ErrBucket, 0, 0
			if bucket == 0 || bucket == 1 {
				switch slot {
				case 2:
					right, accesses = api.ErrLinked, 1
				case 1, 3:
					continue
				default:
					right, misses = api.ErrSlot, 1
				}
			}
			n, missed := w.accesses(), w.arena.Misses()
			m := w.index.Insert(bucket, slot)
			want(t, fmt.Sprintf("P4.4: Insert(%d, %d)", bucket, slot), []any{w.run(m), m.Code(), w.accesses() - n, w.arena.Misses() - missed}, []any{1, right, accesses, misses})
			want(t, "P4.11: once more", []any{w.step(m), m.Code(), w.accesses() - n, w.arena.Misses() - missed}, []any{true, right, accesses, misses})
		}
	}
	want(t, "P4.4: a refused one changes nothing", w.links(1, 2, 3), before)
	w.arena.Store(3, cell, 1)
	m := w.index.Insert(0, 3)
	want(t, "P4.4: a link cell that is not 0", []any{w.run(m), m.Code()}, []any{1, api.ErrLinked})
	w.run(w.index.Remove(1, 2))
	m = w.index.Insert(1, 2)
	want(t, "P4.4: a slot that was linked", []any{w.run(m), m.Code()}, []any{1, api.ErrLinked})
}

// Arguments are looked at at the first step, not when the machine is begun.
func TestInsertLooksAtItsFirstStep(t *testing.T) {
	w := newWorld(t, 2, 1, 1)
	m := w.index.Insert(0, 2)
	want(t, "a slot comes into use", w.alloc(), 2)
	want(t, "P4.4: steps", []any{w.run(m), m.Code()}, []any{4, api.OK})
	m = w.index.Insert(0, 1)
	w.arena.Free(1)
	want(t, "P4.4: a slot that was freed", []any{w.run(m), m.Code()}, []any{1, api.ErrSlot})
}

func TestInsertOfASlotThatIsFreedMeanwhile(t *testing.T) {
	for made := 1; made < 4; made++ {
		w := newWorld(t, 2, 1, 1)
		m := w.index.Insert(0, 1)
		for range made {
			w.step(m)
		}
		w.arena.Free(1)
		right := []any{1, api.ErrSlot, 0}
		switch made {
		case 1:
			right = []any{2, api.ErrSlot, 0} // the head's load is between
		case 3:
			right = []any{1, api.OK, 0} // the swap asks the head alone
		}
		want(t, fmt.Sprintf("P4.4: freed behind step %d", made), []any{w.run(m), m.Code(), m.Tries()}, right)
	}
}

func TestTwoInserts(t *testing.T) {
	w := newWorld(t, 2, 2, 1)
	h, _ := sched.New[sched.Machine](2)
	a, b := w.index.Insert(0, 1), w.index.Insert(0, 2)
	h.Submit(0, 10, a)
	h.Submit(1, 20, b)
	turns := []api.Pick{{Kind: api.PickStep, Who: 0, N: 1}, {Kind: api.PickStep, Who: 1, N: 1}}
	for range 3 {
		h.Play(2, turns...)
	}
	want(t, "example 7: three steps each", []any{a.Tries(), b.Tries(), w.links(1, 2)}, []any{0, 0, []uint64{8194, 8194}})
	h.Play(2, turns...)
	want(t, "example 7: the fourth", []any{a.Tries(), b.Tries(), h.Pending(0), h.Pending(1)}, []any{0, 1, 0, 1})
	w.holds("example 7", 0, 1, 1)
	want(t, "example 7: the second goes on", []any{w.run(b), b.Code(), b.Tries(), w.link(2)}, []any{3, api.OK, 1, 2})
	w.holds("example 7", 0, 2, 2, 1)
}

func TestTriesGrow(t *testing.T) {
	w := newWorld(t, 9, 9, 2)
	late := w.index.Insert(0, 9)
	w.step(late)
	for n := 1; n < 9; n++ {
		w.step(late)
		w.put(0, n)
		want(t, "P4.5", []any{w.step(late), w.step(late), late.Tries(), late.Code()}, []any{false, false, n, api.OK})
	}
	w.put(1)
	want(t, "P4.10: alone", []any{w.run(late), late.Tries(), late.Code()}, []any{3, 8, api.OK})
	w.holds("P4.4", 0, 9, 9, 8, 7, 6, 5, 4, 3, 2, 1)
}

// Another bucket's inserts are in nobody's way.
func TestInsertsOfTwoBuckets(t *testing.T) {
	w := newWorld(t, 2, 2, 2)
	a, b := w.index.Insert(0, 1), w.index.Insert(1, 2)
	for range 4 {
		w.step(a)
		w.step(b)
	}
	want(t, "P4.5", []any{a.Step(), b.Step(), a.Tries(), b.Tries()}, []any{true, true, 0, 0})
	want(t, "P4.4: end words", w.links(1, 2), []uint64{8194, 8196})
}
