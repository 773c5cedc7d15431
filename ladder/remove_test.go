package ladder_test

import (
	"fmt"
	"math"
	"testing"

	"strata/api"
)

func TestRemoveExamples(t *testing.T) {
	w := three(t)
	w.put(1, 2, 3)
	w.play("example 5", w.ladder.Remove(1), load(), load(), write("1.0=3*"), loadHead(), loadHead(), loadHead(), load(), load(), load(), write("2.0=3"), load().last())
	w.holds("example 5", 0, 2, 2, 3)
	w.play("example 5: again", w.ladder.Remove(1), load().last(api.ErrAbsent))
	w.play("example 5: put in again", w.ladder.Insert(1), load().last(api.ErrTwice))

	n := w.accesses()
	m := w.ladder.Remove(9)
	want(t, "example 6: a free slot", []any{w.run(m), m.Code(), w.accesses() - n}, []any{1, api.ErrSlot, 0})
	tall := w.alloc("x", 5)
	n = w.accesses()
	in, out := w.ladder.Insert(tall), w.ladder.Remove(tall)
	want(t, "example 6: height 5", []any{w.run(in), in.Code(), w.run(out), out.Code(), w.accesses() - n}, []any{1, api.ErrLevel, 1, api.ErrLevel, 0})
}

// A slot is marked from its highest level down, and unlinked from the highest level down.
func TestRemoveOfEveryHeight(t *testing.T) {
	for levels := 1; levels <= 4; levels++ {
		for height := 1; height <= levels; height++ {
			w := newWorld(t, 1, levels, fmt.Sprint("a", height))
			w.put(1)
			right := []scene{load()}
			for v := height - 1; v >= 0; v-- {
				right = append(right, load(), write(fmt.Sprint("1.", v, "=end*")))
			}
			for v := levels - 1; v >= 0; v-- {
				right = append(right, loadHead())
				if v < height {
					right = append(right, load(), swapHead(fmt.Sprint("h", v, "=end")))
				}
			}
			right[len(right)-1].done = true
			w.play(fmt.Sprintf("P5.5: height %d of %d", height, levels), w.ladder.Remove(1), right...)
			for v := range levels {
				w.holds("P5.7", v, 0)
			}
		}
	}
}

func TestRemoveAtEveryPlace(t *testing.T) {
	for i, right := range [][]int{{2, 3}, {1, 3}, {1, 2}} {
		w := newWorld(t, 3, 3, "a3", "b3", "c3")
		w.put(1, 2, 3)
		m := w.ladder.Remove(i + 1)
		w.run(m)
		want(t, "P5.5", m.Code(), api.OK)
		for v := range 3 {
			w.holds("P5.7", v, 2, right...)
		}
	}
}

func TestRemoveIsRefused(t *testing.T) {
	w := newWorld(t, 10, 3, "a1", "b0", "c4", "d5")
	w.alloc("e", -1)
	w.alloc("f", math.MinInt)
	w.alloc("g", math.MaxInt)
	w.alloc("h", 3)
	w.put(8)
	before := w.words()
	for _, slot := range strange() {
		right, accesses, misses := api.ErrSlot, 0, 1
		switch {
		case slot == 1:
			right, accesses, misses = api.ErrAbsent, 1, 0
		case slot == 8:
			continue
		case slot > 1 && slot < 8:
			right, misses = api.ErrLevel, 0
		}
		n, missed := w.accesses(), w.arena.Misses()
		m := w.ladder.Remove(slot)
		want(t, "P5.4: beginning one", []any{w.accesses() - n, w.arena.Misses() - missed, m.Code()}, []any{0, 0, api.OK})
		want(t, fmt.Sprintf("P5.5: Remove(%d)", slot), []any{w.run(m), m.Code(), w.accesses() - n, w.arena.Misses() - missed}, []any{1, right, accesses, misses})
		want(t, "P5.5: once more", []any{w.step(m), m.Code(), w.accesses() - n, w.arena.Misses() - missed}, []any{true, right, accesses, misses})
	}
	for _, word := range []uint64{1, 3, endWord + 1} {
		w.set(1, 0, word)
		w.play("P5.5: a marked link", w.ladder.Remove(1), load().last(api.ErrAbsent))
	}
	w.set(1, 0, 0)
	want(t, "P5.5: a refused one changes nothing", w.change(before), "")
}

// Arguments are looked at at the first step, not when the machine is begun.
func TestRemoveLooksAtItsFirstStep(t *testing.T) {
	w := newWorld(t, 2, 2, "a1", "b2")
	m := w.ladder.Remove(1)
	w.put(1)
	want(t, "P5.5: put in meanwhile", []any{w.run(m), m.Code()}, []any{3 + 2 + 2, api.OK})
	m = w.ladder.Remove(2)
	w.arena.Free(2)
	want(t, "P5.5: a slot that was freed", []any{w.run(m), m.Code()}, []any{1, api.ErrSlot})
}

func TestRemoveOfASlotThatIsFreedMeanwhile(t *testing.T) {
	for made := 1; made < 6; made++ { // (R1), (R2), (R3), (F1), (F2), (F3)
		w := newWorld(t, 1, 1, "a1")
		w.put(1)
		m := w.ladder.Remove(1)
		w.steps(m, made)
		w.arena.Free(1)
		right := []any{1, api.ErrSlot, 1}
		switch made {
		case 3:
			right[0] = 2 // the head is loaded first
		case 5:
			right = []any{1, api.OK, 0} // the swap asks the head alone
		}
		want(t, fmt.Sprintf("P5.5: freed behind step %d", made), []any{w.run(m), m.Code(), w.arena.Misses()}, right)
	}
}

// What is put in behind a slot between (R2) and (R3) makes the swap fail: the new word is loaded.
func TestRemoveMarksAgain(t *testing.T) {
	w := newWorld(t, 3, 2, "a2", "b2", "c1")
	w.put(1)
	m := w.ladder.Remove(1)
	w.play("P5.5: up to (R2)", m, load(), load())
	w.put(2)
	w.play("P5.5: (R3) does not swap", m, load(), load(), write("1.1=2*"), load())
	w.run(w.ladder.Remove(2))
	w.play("P5.5: nor at level 0", m, load(), load(), write("1.0=end*"))
	// at level 1 the other Remove has unlinked slot 1 on its way to slot 2
	w.play("P5.5: the search", m, loadHead(), loadHead(), load(), swapHead("h0=end").last())
	w.holds("P5.7", 0, 0)
	w.holds("P5.7", 1, 0)
}

// Of two Removes of one slot that one is done with OK which marks the lowest level; who marks the others does not matter.
func TestTwoRemoves(t *testing.T) {
	w := newWorld(t, 1, 2, "a2")
	w.put(1)
	a, b := w.ladder.Remove(1), w.ladder.Remove(1)
	w.play("P5.8: the first marks above", a, load(), load(), write("1.1=end*"))
	w.play("P5.8: the second goes past that mark", b, load(), load(), load(), write("1.0=end*"))
	w.play("P5.8: the first comes too late", a, load().last(api.ErrAbsent))
	w.run(b)
	want(t, "P5.8", []any{a.Code(), b.Code()}, []any{api.ErrAbsent, api.OK})

	w = newWorld(t, 1, 2, "a2")
	w.put(1)
	a, b = w.ladder.Remove(1), w.ladder.Remove(1)
	w.steps(a, 4)
	w.steps(b, 3)
	w.play("P5.8: both have loaded the lowest link", a, write("1.0=end*"))
	w.play("P5.8: (R3) does not swap, (R2) sees the mark", b, load(), load().last(api.ErrAbsent))

	w = newWorld(t, 1, 1, "a1")
	w.put(1)
	a, b = w.ladder.Remove(1), w.ladder.Remove(1)
	w.steps(a, 2)
	w.steps(b, 2)
	w.play("P5.8: both have loaded it, of height 1", a, write("1.0=end*"))
	w.play("P5.8: (R3) does not swap, (R2) sees the mark", b, load(), load().last(api.ErrAbsent))
	w.run(a)
	w.holds("P5.7", 0, 0)
}

// A Remove that stands still behind its mark is helped by another one.
func TestRemovesOfNeighbours(t *testing.T) {
	w := newWorld(t, 3, 1, "a1", "b1", "c1")
	w.put(1, 2, 3)
	a, b := w.ladder.Remove(1), w.ladder.Remove(2)
	w.steps(a, 3)
	w.steps(b, 3)
	w.holds("both are marked", 0, 3, 3)
	w.play("P5.5: the second takes out both", b, loadHead(), load(), swapHead("h0=2"), load(), swapHead("h0=3"), load().last())
	w.play("P5.5: the first finds nothing", a, loadHead(), load().last())
	w.holds("P5.7", 0, 1, 3)
}

// A marked link that holds no slot (nothing was ever put there) is taken out as one to the end.
func TestRemoveOfASlotThatIsNotWhollyIn(t *testing.T) {
	w := newWorld(t, 2, 3, "a3", "b3")
	m := w.ladder.Insert(1)
	w.steps(m, 6) // behind (I3)
	w.play("P5.5: Remove", w.ladder.Remove(1), load(), load(), write("1.2=0*"), load(), write("1.1=0*"), load(), write("1.0=end*"), loadHead(), loadHead(), loadHead(), load(), swapHead("h0=end").last())
	w.play("P5.5: the insert sees it", m, load().last())
}
