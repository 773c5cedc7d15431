package chain_test

import (
	"fmt"
	"math"
	"testing"

	"strata/api"
	"strata/cells"
	"strata/chain"
)

// want holds what was answered against what should have been.
func want(t *testing.T, what string, got, right any) {
	t.Helper()
	if fmt.Sprint(got) != fmt.Sprint(right) {
		t.Errorf("%s: %v, want %v", what, got, right)
	}
}

// pair takes the two answers of a call as one.
func pair(v any, e api.Errno) [2]any { return [2]any{v, e} }

// strange are numbers at and beyond all bounds.
func strange() []int {
	return []int{math.MinInt, math.MinInt32, -4097, -257, -2, -1, 0, 1, 2, 3, 4, 5, 16, 255, 256, 257, 4095, 4096, 4097, 4098, 4353, 1<<31 - 1, 1 << 31, 1 << 32, math.MaxInt}
}

type machine interface {
	Step() bool
	Code() api.Errno
}

// world is an index over an arena; the link cell is the second of three.
type world struct {
	t     *testing.T
	arena *cells.Arena[string]
	index *chain.Index[string]
}

const cell = 1

// newWorld has so many slots, of which the first ones are in use; the cells beside the link cell hold 7 and 9.
func newWorld(t *testing.T, slots, used, buckets int) *world {
	t.Helper()
	a, e := cells.New[string](slots, 3)
	if e != api.OK {
		t.Fatalf("cells.New(%d, 3): %d", slots, e)
	}
	x, e := chain.New(a, cell, buckets)
	if x == nil || e != api.OK {
		t.Fatalf("P4.1: New(a, %d, %d) = %v, %d", cell, buckets, x, e)
	}
	w := &world{t, a, x}
	for range used {
		w.alloc()
	}
	return w
}

func (w *world) alloc() int {
	slot, _ := w.arena.Alloc("", 7, 0, 9)
	return slot
}

func (w *world) accesses() int { return w.arena.Accesses() + w.index.Accesses() }

// link tells what a slot's link cell holds.
func (w *world) link(slot int) uint64 {
	l, e := w.arena.Peek(slot)
	if e != api.OK {
		w.t.Fatalf("Peek(%d): %d", slot, e)
	}
	if l[0] != 7 || l[2] != 9 {
		w.t.Fatalf("P4.1: other cells than the link cell of %d were written: %v", slot, l)
	}
	return l[cell]
}

func (w *world) links(slots ...int) []uint64 {
	var all []uint64
	for _, s := range slots {
		all = append(all, w.link(s))
	}
	return all
}

// step makes a step and looks how many accesses it made.
func (w *world) step(m machine) bool {
	n := w.accesses()
	done := m.Step()
	if n = w.accesses() - n; n > 1 {
		w.t.Fatalf("P4.11: a step made %d accesses", n)
	}
	return done
}

// run steps a machine till it is done and tells how many steps that took.
func (w *world) run(m machine) int {
	for n := 1; n < 100000; n++ {
		if w.step(m) {
			return n
		}
	}
	w.t.Fatalf("P4.10: a machine that is stepped alone is not done")
	return 0
}

// put inserts slots, one after the other.
func (w *world) put(bucket int, slots ...int) {
	w.t.Helper()
	for _, s := range slots {
		m := w.index.Insert(bucket, s)
		want(w.t, fmt.Sprintf("P4.4: Insert(%d, %d)", bucket, s), []any{w.run(m), m.Code(), m.Tries()}, []any{4, api.OK, 0})
	}
}

// holds looks at List and Held of a bucket.
func (w *world) holds(what string, bucket, held int, list ...int) {
	w.t.Helper()
	n := w.accesses()
	want(w.t, fmt.Sprintf("%s: List(%d)", what, bucket), pair(w.index.List(bucket)), pair(list, api.OK))
	want(w.t, fmt.Sprintf("%s: Held(%d)", what, bucket), pair(w.index.Held(bucket)), pair(held, api.OK))
	want(w.t, "P4.3: accesses of List and Held", w.accesses()-n, 0)
}

// stops tells where a walk stands when it arrives, till it is ended.
func (w *world) stops(m *chain.Walk[string]) []int {
	w.t.Helper()
	var slots []int
	for range 100000 {
		if m.Ended() {
			return slots
		}
		if w.step(m) && m.Slot() != 0 {
			slots = append(slots, m.Slot())
		}
	}
	w.t.Fatalf("P4.10: a walk that is stepped alone is not ended")
	return nil
}

// scribble writes into a list and the room behind it.
func scribble(l []int) {
	l = l[:cap(l)]
	for i := range l {
		l[i] = -99
	}
}
