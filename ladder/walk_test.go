package ladder_test

import (
	"fmt"
	"testing"

	"strata/api"
)

// stand is what a walk tells behind a step.
type stand struct {
	arrived bool
	slot    int
	ended   bool
	code    api.Errno
}

// going is a step that has not arrived, at one that stands at a slot, atLast one behind which no further comes, over one at the end.
var going, over = stand{}, stand{true, 0, true, api.OK}

func at(slot int) stand     { return stand{true, slot, false, api.OK} }
func atLast(slot int) stand { return stand{true, slot, true, api.OK} }

func failed(e api.Errno) stand { return stand{true, 0, true, e} }

// path steps a walk and holds what it tells against the right stands. Each step makes one access; one of an ended walk makes none. (Of a step that fails see counts.)
func (w *world) path(what string, m *walk, right ...stand) {
	w.t.Helper()
	before := w.words()
	want(w.t, what+": at first", []any{m.Slot(), m.Ended(), m.Code()}, []any{0, false, api.OK})
	for i, r := range right {
		n, ended := w.accesses(), m.Ended()
		got := stand{w.step(m), m.Slot(), m.Ended(), m.Code()}
		want(w.t, fmt.Sprintf("%s: step %d", what, i+1), got, r)
		made := w.accesses() - n
		if ended && made != 0 || !ended && r.code == api.OK && made != 1 {
			w.t.Errorf("P5.11: %s: step %d made %d accesses", what, i+1, made)
		}
	}
	want(w.t, what+": a walk changes nothing", w.change(before), "")
}

func TestWalkExamples(t *testing.T) {
	w := three(t)
	w.put(1, 2, 3)
	n := w.ladder.Accesses()
	w.path("example 4", w.ladder.Walk("b"), going, going, going, going, going, at(1), atLast(3), over, over)
	want(t, "example 4: accesses to heads", w.ladder.Accesses()-n, 3)

	r := w.ladder.Remove(2)
	w.steps(r, 5)
	// (W1) at 3, 2, 1; (W2) at 1: marked, the end; (W1) at 0 by the head; (W2): slot 2 is marked; (W3)
	w.path("example 7", w.ladder.Walk("b"), going, going, going, going, going, going, at(1), atLast(3), over)

	w = three(t)
	w.put(1, 2, 3)
	m := w.ladder.Walk("")
	want(t, "example 8: it stands at 2", []any{w.run(m), m.Slot()}, []any{5, 2})
	w.steps(w.ladder.Remove(1), 3)
	want(t, "example 8: past slot 1", []any{w.step(m), m.Slot(), m.Ended()}, []any{false, 0, false})
	want(t, "example 8: at 3", []any{w.step(m), m.Slot(), m.Ended()}, []any{true, 3, true})
}

func TestWalkOfNothing(t *testing.T) {
	for levels := 1; levels <= 4; levels++ {
		w := newWorld(t, 1, levels)
		right := []stand{}
		for range levels - 1 {
			right = append(right, going)
		}
		w.path("P5.5: an empty ladder", w.ladder.Walk(""), append(right, over, over)...)
	}
}

// A walk tells all slots whose key is low or above, of whatever low.
func TestWalkFromEveryKey(t *testing.T) {
	w := newWorld(t, 7, 3, "b1", "d3", "b2", "a1", "ab2", "c1", "d1")
	w.put(1, 2, 3, 4, 5, 6, 7)
	all := []int{4, 5, 1, 3, 6, 2, 7}
	for low, skip := range map[string]int{"": 0, "\x00": 0, "A": 0, "a": 0, "a\x00": 1, "ab": 1, "aba": 2, "b": 2, "b\x00": 4, "c": 4, "cz": 5, "d": 5, "d\x00": 7, "e": 7, "\xff": 7} {
		m := w.ladder.Walk(low)
		want(t, fmt.Sprintf("P5.9: a walk from %q", low), w.stops(m), all[skip:])
		n := w.accesses()
		want(t, "P5.5: at its end", []any{m.Step(), m.Slot(), m.Ended(), m.Code(), w.accesses() - n}, []any{true, 0, true, api.OK, 0})
	}
}

// The way down is by the highest levels first.
func TestWalkGoesDown(t *testing.T) {
	w := newWorld(t, 4, 3, "a3", "b1", "c2", "d1")
	w.put(1, 2, 3, 4)
	// (W1) 2, (W2) 1; (W1) 1 by slot 1, (W2) 3; (W1) 0 by slot 3; (W3) 4
	n := w.ladder.Accesses()
	w.path("P5.5", w.ladder.Walk("d"), going, going, going, going, going, atLast(4), over)
	want(t, "P5.2: one head", w.ladder.Accesses()-n, 1)
	// at level 1 slot 3 is not below: down from slot 1, past slot 2
	w.path("P5.5", w.ladder.Walk("bb"), going, going, going, going, going, at(3), atLast(4), over)
	w.path("P5.5: behind all", w.ladder.Walk("e"), going, going, going, going, going, over)
}

// A walk goes down from a slot that has been marked and unlinked since: its link is not looked at for its mark.
func TestWalkGoesDownFromWhatIsGone(t *testing.T) {
	w := newWorld(t, 4, 2, "a2", "b1", "c1", "bb1")
	w.put(1, 2, 3)
	m := w.ladder.Walk("b")
	w.path("P5.5: past slot 1 at level 1", m, going, going)
	w.run(w.ladder.Remove(1))
	w.put(4)
	want(t, "P5.9: it tells what stands behind", w.stops(m), []int{2, 4, 3})

	w = newWorld(t, 3, 2, "a2", "b1", "c1")
	w.put(1, 2, 3)
	m = w.ladder.Walk("b")
	w.path("P5.5: past slot 1 at level 1", m, going, going)
	w.run(w.ladder.Remove(1))
	w.run(w.ladder.Remove(2))
	// slot 1's link still leads to slot 2, which is marked
	want(t, "P5.9: (W1)", []any{w.step(m), m.Slot()}, []any{false, 0})
	want(t, "P5.9: (W3), marked", []any{w.step(m), m.Slot()}, []any{false, 0})
	want(t, "P5.9: (W3)", []any{w.step(m), m.Slot(), m.Ended()}, []any{true, 3, true})
}

func TestWalkPastMarkedSlots(t *testing.T) {
	w := newWorld(t, 4, 1, "a1", "b1", "c1", "d1")
	w.put(1, 2, 3, 4)
	for _, s := range []int{1, 2, 4} {
		w.steps(w.ladder.Remove(s), 3)
	}
	w.path("P5.5: the last is marked", w.ladder.Walk(""), going, going, going, at(3), over, over)
	w.path("P5.5: marked ones below low", w.ladder.Walk("bb"), going, going, going, at(3), over)
	w.steps(w.ladder.Remove(3), 3)
	w.path("P5.5: all are marked", w.ladder.Walk(""), going, going, going, going, over, over)
	w.path("P5.5: all are below", w.ladder.Walk("z"), going, going, going, going, over)
}

// Ended is true as soon as the walk knows it, and what is put in behind is not told then.
func TestWalkThatHasEnded(t *testing.T) {
	w := newWorld(t, 3, 1, "a1", "c1", "b1")
	w.put(1)
	m := w.ladder.Walk("")
	w.path("P5.5", m, going, atLast(1))
	w.put(2)
	want(t, "P5.5: it is over", []any{m.Ended(), m.Step(), m.Slot()}, []any{true, true, 0})

	m = w.ladder.Walk("")
	w.path("P5.5", m, going, at(1))
	w.put(3)
	want(t, "P5.5: the pending one was noted", w.stops(m), []int{2})
	want(t, "P5.5: begun now", w.stops(w.ladder.Walk("")), []int{1, 3, 2})
	m = w.ladder.Walk("")
	w.run(w.ladder.Remove(1))
	want(t, "P5.5: begun, and not stepped", w.stops(m), []int{3, 2})
}

// counts tells how many accesses and misses the next step makes.
func (w *world) counts(m *walk) []int {
	n, missed := w.accesses(), w.arena.Misses()
	w.step(m)
	return []int{w.accesses() - n, w.arena.Misses() - missed}
}

func TestWalkMeetsAFreeSlot(t *testing.T) {
	fresh := func() *world {
		w := newWorld(t, 4, 2, "a2", "b1", "c1")
		w.put(1, 2, 3)
		return w
	}
	w := fresh()
	w.arena.Free(1)
	w.path("P5.5: (T) behind (W1) asks for a payload", w.ladder.Walk("b"), failed(api.ErrSlot), failed(api.ErrSlot))
	w.path("P5.5: (T) asks, whatever low is", w.ladder.Walk(""), failed(api.ErrSlot), failed(api.ErrSlot))
	want(t, "P5.5: the load was made, the payload missed", w.counts(w.ladder.Walk("")), []int{1, 1})

	w = fresh()
	w.arena.Free(2)
	w.path("P5.5: (T) at level 0", w.ladder.Walk("b"), going, going, failed(api.ErrSlot), failed(api.ErrSlot))
	w.path("P5.5: (W3) of the next one", w.ladder.Walk("a"), going, going, at(1), failed(api.ErrSlot), failed(api.ErrSlot))

	w = fresh()
	m := w.ladder.Walk("b")
	w.path("P5.5: slot 1 is asked", m, going)
	w.arena.Free(1)
	want(t, "P5.5: (W2) of a free slot", append(w.counts(m), int(m.Code())), []int{0, 1, int(api.ErrSlot)})
	want(t, "P5.5: it is ended", []any{m.Slot(), m.Ended(), m.Step(), m.Code()}, []any{0, true, true, api.ErrSlot})

	w = fresh()
	m = w.ladder.Walk("b")
	w.path("P5.5: past slot 1", m, going, going)
	w.arena.Free(1)
	want(t, "P5.5: (W1) of a free slot", append(w.counts(m), int(m.Code())), []int{0, 1, int(api.ErrSlot)})

	w = fresh()
	m = w.ladder.Walk("")
	w.path("P5.5: at slot 1", m, going, going, at(1))
	w.arena.Free(2)
	want(t, "P5.5: (W3) of a free slot", append(w.counts(m), int(m.Code())), []int{0, 1, int(api.ErrSlot)})
	want(t, "P5.5: it stands nowhere", []any{m.Slot(), m.Ended()}, []any{0, true})
	want(t, "P5.5: no access behind an error", w.counts(m), []int{0, 0})
}

// A link of the number 0 counts as the end, and one to a number that no slot has is refused.
func TestWalkAtNothing(t *testing.T) {
	for _, word := range []uint64{0, endWord} {
		w := newWorld(t, 3, 1, "a1", "b1", "c1")
		w.put(1, 2, 3)
		w.set(2, 0, word)
		w.path("P5.5: (W3)", w.ladder.Walk(""), going, at(1), atLast(2), over)
		w.path("P5.5: (W2)", w.ladder.Walk("c"), going, going, over)
		w.set(2, 0, word+1)
		w.path("P5.5: (W3), marked", w.ladder.Walk(""), going, at(1), over)
		w.path("P5.5: (W2), marked", w.ladder.Walk("c"), going, going, over)
	}
	for _, number := range []uint64{4, 4096, 4097, endNumber - 1} {
		w := newWorld(t, 3, 1, "a1", "b1", "c1")
		w.put(1, 2, 3)
		w.set(2, 0, 2*number)
		w.path("P5.5: no slot", w.ladder.Walk(""), going, at(1), at(2), failed(api.ErrSlot))
		w.path("P5.5: no slot, by (T)", w.ladder.Walk("c"), going, going, failed(api.ErrSlot))
	}
	w := newWorld(t, 3, 2, "a2", "b1")
	w.put(1, 2)
	w.set(1, 0, 0)
	w.path("P5.5: (W1)", w.ladder.Walk("b"), going, going, over)
	w.set(1, 0, 1)
	w.path("P5.5: (W1), marked", w.ladder.Walk("b"), going, going, over)
}
