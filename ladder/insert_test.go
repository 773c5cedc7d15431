package ladder_test

import (
	"fmt"
	"math"
	"testing"

	"strata/api"
)

// three is the world of the chapter's examples.
func three(t *testing.T) *world { return newWorld(t, 8, 4, "b1", "a2", "b1") }

func TestInsertExamples(t *testing.T) {
	w := three(t)
	m := w.ladder.Insert(1)
	want(t, "P5.4: ahead of its first step", []any{m.Code(), w.accesses()}, []any{api.OK, 3})
	w.play("example 1", m, load(), loadHead(), loadHead(), loadHead(), loadHead(), write("1.0=end"), swapHead("h0=1").last())
	w.holds("example 1", 0, 1, 1)
	want(t, "example 1: accesses", w.ladder.Accesses(), 5)

	w.play("example 2", w.ladder.Insert(2), load(), loadHead(), loadHead(), loadHead(), loadHead(), load(), write("2.0=1"), swapHead("h0=2"), load(), write("2.1=end"), swapHead("h1=2").last())
	w.holds("example 2", 0, 2, 2, 1)
	w.holds("example 2", 1, 1, 2)
	w.holds("example 2", 2, 0)

	w.play("example 3", w.ladder.Insert(3), load(), loadHead(), loadHead(), loadHead(), load(), load(), load(), write("3.0=end"), write("1.0=3").last())
	w.holds("example 3", 0, 3, 2, 1, 3)
	w.holds("example 3", 1, 1, 2)
}

// At every height and every number of levels an insert into nothing makes the accesses of the chapter's list.
func TestInsertOfEveryHeight(t *testing.T) {
	for levels := 1; levels <= 4; levels++ {
		for height := 1; height <= levels; height++ {
			w := newWorld(t, 1, levels, fmt.Sprint("a", height))
			right := []scene{load()}
			for range levels {
				right = append(right, loadHead())
			}
			right = append(right, write("1.0=end"), swapHead("h0=1"))
			for v := 1; v < height; v++ {
				right = append(right, load(), write(fmt.Sprint("1.", v, "=end")), swapHead(fmt.Sprint("h", v, "=1")))
			}
			right[len(right)-1].done = true
			w.play(fmt.Sprintf("P5.5: height %d of %d", height, levels), w.ladder.Insert(1), right...)
			for v := range levels {
				if v < height {
					w.holds("P5.7", v, 1, 1)
				} else {
					w.holds("P5.7", v, 0)
				}
			}
		}
	}
}

// The order is that of the keys' bytes, then that of the slots.
func TestOrder(t *testing.T) {
	keys := []string{"b", "", "a\x00", "\xff", "a", "b", "ab", "a\xff", "B", "", "\xc3\xa4", "z", "\x00", "b"}
	right := []int{2, 10, 13, 9, 5, 3, 7, 8, 1, 6, 14, 12, 11, 4}
	for turn := range 3 {
		w := newWorld(t, len(keys), 3)
		for i, key := range keys {
			w.alloc(key, 1+(i*turn)%3)
		}
		for i := range keys {
			w.put(1 + (i*5+turn)%len(keys))
		}
		w.holds("P5.6: the order", 0, len(keys), right...)
		want(t, "P5.9: a walk", w.stops(w.ladder.Walk("")), right)
	}
}

func TestInsertIsRefused(t *testing.T) {
	w := newWorld(t, 9, 3, "a1", "b0", "c4", "d5")
	w.alloc("e", -1)
	w.alloc("f", math.MinInt)
	w.alloc("g", math.MaxInt)
	w.put(1)
	before := w.words()
	for _, slot := range strange() {
		right, accesses, misses := api.ErrSlot, 0, 1
		switch {
		case slot == 1:
			right, accesses, misses = api.ErrTwice, 1, 0
		case slot > 1 && slot < 8:
			right, misses = api.ErrLevel, 0
		}
		n, missed := w.accesses(), w.arena.Misses()
		m := w.ladder.Insert(slot)
		want(t, "P5.4: beginning one", []any{w.accesses() - n, w.arena.Misses() - missed, m.Code()}, []any{0, 0, api.OK})
		want(t, fmt.Sprintf("P5.5: Insert(%d)", slot), []any{w.run(m), m.Code(), w.accesses() - n, w.arena.Misses() - missed}, []any{1, right, accesses, misses})
		want(t, "P5.5: once more", []any{w.step(m), m.Code(), w.accesses() - n, w.arena.Misses() - missed}, []any{true, right, accesses, misses})
	}
	want(t, "P5.5: a refused one changes nothing", w.change(before), "")
}

// Whatever stands in its own lowest link, a slot that has something there was put in; what stands in the others is not looked at.
func TestInsertTwice(t *testing.T) {
	for _, word := range []uint64{1, 2, 3, endWord, endWord + 1} {
		w := newWorld(t, 2, 2, "a2")
		w.set(1, 0, word)
		w.play("P5.5", w.ladder.Insert(1), load().last(api.ErrTwice))
	}
	w := newWorld(t, 2, 2, "a2")
	w.put(1)
	w.play("P5.8: put in once more", w.ladder.Insert(1), load().last(api.ErrTwice))
	w.run(w.ladder.Remove(1))
	w.play("P5.8: when it was taken out", w.ladder.Insert(1), load().last(api.ErrTwice))

	w = newWorld(t, 2, 2, "a2")
	w.set(1, 1, 2*7)
	w.play("P5.5: something else in the link above", w.ladder.Insert(1), load(), loadHead(), loadHead(), write("1.0=end"), swapHead("h0=1"), load(), write("1.1=end"), swapHead("h1=1").last())
}

// Arguments are looked at at the first step, not when the machine is begun.
func TestInsertLooksAtItsFirstStep(t *testing.T) {
	w := newWorld(t, 2, 2, "a1")
	m := w.ladder.Insert(2)
	want(t, "a slot comes into use", w.alloc("b", 2), 2)
	want(t, "P5.5: steps", []any{w.run(m), m.Code()}, []any{8, api.OK})
	m = w.ladder.Insert(1)
	w.arena.Free(1)
	want(t, "P5.5: a slot that was freed", []any{w.run(m), m.Code()}, []any{1, api.ErrSlot})
}

// A slot that is freed under an insert ends it where it is next asked for.
func TestInsertOfASlotThatIsFreedMeanwhile(t *testing.T) {
	for made := 1; made < 8; made++ {
		w := newWorld(t, 1, 2, "a2") // (I1), two (F1), (I2), (I3), (I4), (I5), (I6)
		m := w.ladder.Insert(1)
		w.steps(m, made)
		w.arena.Free(1)
		right := []any{1, api.ErrSlot, 1}
		switch made {
		case 1:
			right[0] = 3 // two heads are loaded first
		case 2, 4:
			right[0] = 2 // a head is loaded, or swapped, first
		case 7:
			right = []any{1, api.OK, 0} // the last swap asks the head alone
		}
		want(t, fmt.Sprintf("P5.5: freed behind step %d", made), []any{w.run(m), m.Code(), w.arena.Misses()}, right)
	}
}

// The search is refused where it meets a slot that is not in use.
func TestInsertMeetsAFreeSlot(t *testing.T) {
	w := newWorld(t, 3, 2, "a1", "b1", "c1")
	w.put(1, 2)
	w.arena.Free(2)
	m := w.ladder.Insert(3)
	want(t, "P5.5: (F2)", []any{w.run(m), m.Code(), w.arena.Misses()}, []any{1 + 2 + 2, api.ErrSlot, 1})
	want(t, "P5.5: it has written nothing", w.links(3), []uint64{0, 0})

	w = newWorld(t, 3, 2, "a2", "b1")
	w.put(1)
	m = w.ladder.Insert(2)
	w.steps(m, 3) // (I1), (F1), (F2): slot 1 is the place ahead
	w.arena.Free(1)
	want(t, "P5.5: (F1)", []any{w.run(m), m.Code()}, []any{1, api.ErrSlot})

	w = newWorld(t, 3, 1, "a1", "b1")
	w.put(1)
	m = w.ladder.Insert(2)
	w.steps(m, 4) // (I1), (F1), (F2), (I2)
	w.arena.Free(1)
	want(t, "P5.5: (I3)", []any{w.run(m), m.Code()}, []any{1, api.ErrSlot})
}

func TestInsertAgain(t *testing.T) {
	w := newWorld(t, 3, 2, "b1", "a1", "c1")
	m := w.ladder.Insert(1)
	w.play("P5.5: up to (I2)", m, load(), loadHead(), loadHead(), write("1.0=end"))
	w.put(2)
	w.play("P5.5: (I3) does not swap; (I2) stores the same word", m, loadHead(), loadHead(), loadHead(), load(), write(""))
	w.put(3)
	w.play("P5.5: nor does it now", m, load(), loadHead(), loadHead(), load(), load(), write("1.0=3"), write("2.0=1").last())
	w.holds("P5.7", 0, 3, 2, 1, 3)
}

// At a level above the lowest the search is made again too; the slot's own link is as it should be then, or is swapped once more.
func TestInsertAgainAbove(t *testing.T) {
	w := newWorld(t, 3, 2, "b2", "a2", "c2")
	m := w.ladder.Insert(1)
	w.play("P5.5: up to (I5)", m, load(), loadHead(), loadHead(), write("1.0=end"), swapHead("h0=1"), load(), write("1.1=end"))
	w.put(2)
	w.play("P5.5: (I6) does not swap; the search comes to the slot itself at level 0", m, loadHead(), loadHead(), load(), load(), load())
	w.play("P5.5: (I4): the link is right", m, load())
	w.put(3)
	w.play("P5.5: (I6) does not swap", m, load(), loadHead(), load(), load(), load(), load())
	w.play("P5.5: (I4), (I5), (I6)", m, load(), write("1.1=3"), write("2.1=1").last())
	w.holds("P5.7", 0, 3, 2, 1, 3)
	w.holds("P5.7", 1, 3, 2, 1, 3)
}

// Against the rules: a slot is taken out while it is being put in.
func TestInsertOfASlotThatIsTakenOut(t *testing.T) {
	at := func(made int) (*world, *insert, *remove) {
		w := newWorld(t, 2, 2, "a2", "b2")
		m := w.ladder.Insert(1)
		w.steps(m, made)
		return w, m, w.ladder.Remove(1)
	}
	w, m, r := at(5) // behind (I3)
	w.play("P5.5: nothing was put there", r, load(), load(), write("1.1=0*"), load(), write("1.0=end*"), loadHead(), loadHead(), load(), swapHead("h0=end").last())
	w.play("P5.5: (I4) sees the mark", m, load().last())

	w, m, r = at(6) // behind (I4)
	w.steps(r, 3)
	w.play("P5.5: (I5) does not swap, (I4) sees the mark", m, load(), load().last())

	w, m, r = at(7) // behind (I5)
	w.steps(r, 3)
	w.play("P5.5: (I6) swaps all the same", m, swapHead("h1=1").last())
	w.run(r)
	w.holds("P5.5: both rows are empty", 0, 0)
	w.holds("P5.5: both rows are empty", 1, 0)

	w, m, r = at(7)
	w.run(r)
	w.put(2)
	w.play("P5.5: (I6) does not swap, behind is another one", m, loadHead(), loadHead(), load(), loadHead(), load().last())
	w.holds("P5.5", 1, 1, 2)
}

// The search takes out what is marked, of whomever it is.
func TestInsertTakesOut(t *testing.T) {
	w := newWorld(t, 4, 2, "a2", "b1", "c1", "d1")
	w.put(1, 2, 3)
	marked := w.ladder.Remove(1)
	w.steps(marked, 5)
	last := w.ladder.Remove(3)
	w.steps(last, 3)
	w.holds("two marked ones", 0, 3, 2)
	w.play("P5.5: (F3)", w.ladder.Insert(4),
		load(), loadHead(), load(), swapHead("h1=end"), loadHead(), load(), swapHead("h0=2"), load(), load(), write("2.0=end"), write("4.0=end"), write("2.0=4").last())
	w.holds("P5.5", 0, 2, 2, 4)
	w.holds("P5.5", 1, 0)
	w.play("P5.5: nothing is left to take out", marked, loadHead(), loadHead(), load().last())
	w.play("P5.5: nothing is left to take out", last, loadHead(), loadHead(), load(), load().last())
}

// A search begins again where the place from which it would go down is marked, or has changed.
func TestSearchBeginsAgain(t *testing.T) {
	w := newWorld(t, 3, 2, "a2", "b1", "c1")
	w.put(1, 2)
	m := w.ladder.Insert(3)
	w.play("P5.5: down from slot 1", m, load(), loadHead(), load())
	r := w.ladder.Remove(1)
	w.steps(r, 5)
	w.play("P5.5: (F1) sees its mark", m, load(), loadHead(), load(), swapHead("h1=end"), loadHead(), load(), swapHead("h0=2"), load(), write("3.0=end"), write("2.0=3").last())

	w = newWorld(t, 4, 1, "a1", "c1", "d1", "b1")
	w.put(1, 2)
	r = w.ladder.Remove(2)
	w.steps(r, 3)
	m = w.ladder.Insert(3)
	w.play("P5.5: up to (F3)", m, load(), loadHead(), load(), load())
	w.put(4)
	w.play("P5.5: (F3) does not swap", m, load(), loadHead(), load(), load(), write("3.0=end"), write("4.0=3").last())
	w.holds("P5.5", 0, 3, 1, 4, 3)
}

// A link of the number 0 counts as the end in a search, and is written as the end word.
func TestSearchAtNothing(t *testing.T) {
	w := newWorld(t, 3, 1, "a1", "b1", "c1")
	w.put(1, 2)
	w.set(2, 0, 1)
	w.play("P5.5: a marked link of no slot", w.ladder.Insert(3), load(), loadHead(), load(), load(), write("1.0=end"), write("3.0=end"), write("1.0=3").last())

	w = newWorld(t, 3, 1, "a1", "b1", "c1")
	w.put(1, 2)
	w.set(2, 0, 0)
	m := w.ladder.Insert(3)
	w.play("P5.5: (F2): the end", m, load(), loadHead(), load(), load(), write("3.0=end"), load())
	w.set(2, 0, endWord)
	w.play("P5.5: and again", m, loadHead(), load(), load(), load(), write("2.0=3").last())

	w = newWorld(t, 3, 2, "a2", "b1")
	w.put(1)
	w.set(1, 0, 0)
	w.play("P5.5: (F1): the end", w.ladder.Insert(2), load(), loadHead(), load(), load(), write("2.0=end"), load())
}
