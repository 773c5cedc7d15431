package ladder_test

import (
	"fmt"
	"math/rand"
	"testing"

	"strata/api"
)

// greatestHeld tells the greatest Held of any level.
func (w *world) greatestHeld() int {
	n := 0
	for v := range w.levels {
		held, _ := w.ladder.Held(v)
		n = max(n, held)
	}
	return n
}

// finder is an Insert or a Remove.
type finder interface {
	machine
	Begins() bool // whether the next access is the first of a search
}

// runAlone steps a machine till it is done, and tells how many steps that took, and how often a search was begun.
func (w *world) runAlone(m finder) (steps, searches int) {
	for steps < 10000 {
		if m.Begins() {
			searches++
		}
		steps++
		if w.step(m) {
			return steps, searches
		}
	}
	w.t.Fatalf("P5.10: a machine that is stepped alone is not done")
	return 0, 0
}

// An Insert or Remove that begins when no other machine is at work makes few accesses, and searches once.
func TestAloneFromTheBeginning(t *testing.T) {
	closest := 0
	for seed := range int64(1000) {
		source := rand.New(rand.NewSource(seed))
		slots, levels := 1+source.Intn(10), 1+source.Intn(4)
		w := newWorld(t, slots, levels)
		for range slots {
			w.alloc(someKey(source), 1+source.Intn(levels))
		}
		in := map[int]bool{}
		for range 3 * slots {
			slot := 1 + source.Intn(slots)
			n, before := w.greatestHeld(), w.accesses()
			var m finder = w.ladder.Insert(slot)
			if in[slot] {
				m = w.ladder.Remove(slot)
			}
			steps, searches := w.runAlone(m)
			made, bound := w.accesses()-before, levels*(2*n+8)
			if made > bound || steps != made || searches != 1 && m.Code() == api.OK {
				t.Fatalf("P5.10: seed %d: %d accesses by %d steps, %d searches, %d levels, %d held", seed, made, steps, searches, levels, n)
			}
			closest = max(closest, 100*made/bound)
			in[slot] = m.Code() == api.OK && !in[slot]
		}
	}
	if closest < 50 {
		t.Errorf("the runs were short: %d of a hundred of the bound", closest)
	}
}

// A walk arrives soon, wherever other machines have been left standing.
func TestWalkAlone(t *testing.T) {
	longest := 0
	for seed := range int64(2000) {
		source := rand.New(rand.NewSource(seed))
		slots, levels := 1+source.Intn(8), 1+source.Intn(4)
		w := newWorld(t, slots, levels)
		var others []machine
		for s := 1; s <= slots; s++ {
			w.alloc(someKey(source), 1+source.Intn(levels))
			others = append(others, w.ladder.Insert(s))
			if source.Intn(2) == 0 {
				w.run(others[s-1])
				others[s-1] = w.ladder.Remove(s)
			}
		}
		m := w.ladder.Walk(someKey(source))
		all := append(others, m)
		for range source.Intn(60) {
			all[source.Intn(len(all))].Step()
		}
		for !m.Ended() {
			n := w.run(m)
			if longest = max(longest, n); n > levels*(slots+1)+slots+1 {
				t.Fatalf("P5.10: seed %d: a walk took %d steps, %d levels, %d slots", seed, n, levels, slots)
			}
		}
	}
	if longest < 9 {
		t.Errorf("the runs were short: %d steps", longest)
	}
}

// The longest way of a walk: past slots that are all marked at all levels, from the head again at each.
func TestWalkPastAllThatIsMarked(t *testing.T) {
	for levels := 1; levels <= 4; levels++ {
		const slots = 6
		w := newWorld(t, slots, levels)
		for s := 1; s <= slots; s++ {
			w.alloc("a", levels)
			w.put(s)
		}
		for s := 1; s <= slots; s++ {
			w.steps(w.ladder.Remove(s), 1+2*levels)
		}
		m := w.ladder.Walk("b")
		want(t, "P5.10: below low", []any{w.run(m), m.Slot(), m.Ended()}, []any{levels * (slots + 1), 0, true})
		m = w.ladder.Walk("a")
		want(t, "P5.10: not below", []any{w.run(m), m.Slot(), m.Ended()}, []any{levels + slots, 0, true})
	}
}

// Each machine that makes n accesses takes n steps; one that makes none takes one.
func TestStepsAreAccesses(t *testing.T) {
	w := newWorld(t, 4, 3, "b3", "a2", "c1")
	for _, c := range []struct {
		name            string
		m               machine
		steps, accesses int
	}{
		{"Insert(1)", w.ladder.Insert(1), 1 + 3 + 2 + 3 + 3, 12},
		{"Insert(2)", w.ladder.Insert(2), 1 + 6 + 2 + 3, 12},
		{"Insert(3)", w.ladder.Insert(3), 1 + 4 + 2, 7},
		{"Insert(3) again", w.ladder.Insert(3), 1, 1},
		{"Insert(4)", w.ladder.Insert(4), 1, 0},
		{"Remove(4)", w.ladder.Remove(4), 1, 0},
		{"Remove(2)", w.ladder.Remove(2), 5 + 2 + 4 + 4, 15},
		{"Remove(2) again", w.ladder.Remove(2), 1, 1},
	} {
		n := w.accesses()
		want(t, fmt.Sprintf("P5.11: steps and accesses of %s", c.name), []int{w.run(c.m), w.accesses() - n}, []int{c.steps, c.accesses})
	}
}
