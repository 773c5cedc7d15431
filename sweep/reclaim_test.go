package sweep_test

import (
	"fmt"
	"math"
	"testing"

	"strata/api"
)

// limbo fills the limbo with versions of these stamps; it tells their slots.
func (w *world) limbo(stamps ...uint64) []int {
	w.t.Helper()
	var slots []int
	for _, stamp := range stamps {
		w.tick(stamp)
		slot := w.put("a", 1, 1)
		w.collect(slot, 1)
		slots = append(slots, slot)
	}
	return slots
}

func TestReclaimMost(t *testing.T) {
	for _, c := range []struct {
		most, freed int
		accesses    string
	}{{1, 1, "lc"}, {2, 2, "lclc"}, {3, 3, "lclclc"}, {4, 3, "lclclcl"}, {5, 3, "lclclcl"}, {api.MaxSlots, 3, "lclclcl"}, {math.MaxInt, 3, "lclclcl"}} {
		w := newWorld(t, 8, 1, 2, 9)
		slots := w.limbo(9, 9, 9)
		what := fmt.Sprintf("P8.6: Reclaim of %d at most", c.most)
		w.finish(what, w.Reclaim(10, c.most), c.accesses, api.OK, c.freed)
		w.amounts(what, 3-c.freed, 3, c.freed)
		want(t, what+": the oldest first", fmt.Sprint(w.Cells.Live()), fmt.Sprint(slots[c.freed:]))
		want(t, what+": Misses", w.Misses(), 0)
	}
	w := newWorld(t, 8, 1, 2, 9)
	w.limbo(9, 9)
	for _, most := range []int{0, -1, -2, math.MinInt} {
		w.refused(fmt.Sprintf("P8.6: Reclaim of %d at most", most), w.Reclaim(99, most), api.OK)
		want(t, "P8.6: Freed", w.Reclaim(99, most).Freed(), 0)
	}
}

func TestReclaimFloor(t *testing.T) {
	for _, c := range []struct {
		floor    uint64
		freed    int
		accesses string
	}{{0, 0, "l"}, {10, 0, "l"}, {11, 1, "lcl"}, {12, 1, "lcl"}, {13, 2, "lclcl"}, {14, 2, "lclcl"}, {15, 2, "lclcl"}, {16, 3, "lclclcl"}, {1<<64 - 1, 3, "lclclcl"}} {
		w := newWorld(t, 8, 1, 2, 9)
		w.limbo(10, 12, 15)
		what := fmt.Sprintf("P8.6: Reclaim below %d", c.floor)
		w.finish(what, w.Reclaim(c.floor, 9), c.accesses, api.OK, c.freed)
		w.amounts(what, 3-c.freed, 3, c.freed)
	}
}

func TestReclaimOfNothing(t *testing.T) {
	w := newWorld(t, 8, 1, 2, 9)
	for _, floor := range stamps() {
		w.finish("P8.6: an empty limbo", w.Reclaim(floor, 1), "l", api.OK, 0)
	}
	want(t, "P8.2: each look is an access", w.Sweeper.Accesses(), len(stamps()))
}

// The queue goes by entries, not by stamps: a front whose stamp is not below the floor keeps those behind it.
func TestReclaimQueue(t *testing.T) {
	w := newWorld(t, 8, 1, 2, 9)
	first, second := w.Collect(w.put("a", 1, 1), 1), w.Collect(w.put("b", 1, 1), 1)
	upToStamp := func(m machine, stamp uint64) {
		w.tick(stamp)
		for made, done := "", false; made != "t" && !done; {
			made, done = w.step(m)
		}
	}
	upToStamp(first, 10)
	upToStamp(second, 14)
	w.finish("P8.5: the later stamp enters first", second, "l", api.OK, nil)
	w.finish("P8.5: the earlier stamp enters behind it", first, "l", api.OK, nil)
	w.finish("P8.6: the front is not below", w.Reclaim(14, 9), "l", api.OK, 0)
	w.amounts("P8.6: the front is not below", 2, 2, 0)
	w.finish("P8.6: both are below", w.Reclaim(15, 9), "lclcl", api.OK, 2)
}

// Freed slots come to the back of the arena's queue in the order in which they were unlinked, and can be used again.
func TestReclaimedSlots(t *testing.T) {
	w := newWorld(t, 3, 1, 2, 9)
	one, two, three := w.put("a", 1, 1), w.put("b", 1, 1), w.put("c", 1, 1)
	for _, slot := range []int{two, three, one} {
		w.collect(slot, 1)
	}
	full := w.Load(1, "d", "")
	w.run(full)
	want(t, "P8.6: what is in limbo is in use", full.Code(), api.ErrFull)
	w.run(w.Reclaim(10, 9))
	for _, right := range []int{two, three, one} {
		m := w.Load(1, "d", "")
		w.run(m)
		want(t, "P8.6: a slot that was freed", []any{m.Slot(), m.Code(), w.claim(m.Slot())}, []any{right, api.OK, 0})
	}
	w.linked("P8.6: versions in slots that were freed", []int{one, three, two}, []int{one, two, three})
}

// What entered behind the beginning of a Reclaim counts too, and the count of one is its own.
func TestReclaimsTogether(t *testing.T) {
	w := newWorld(t, 8, 1, 2, 9)
	w.limbo(9, 9)
	one, two := w.Reclaim(10, 2), w.Reclaim(10, 9)
	w.play("one", one, "l")
	w.play("two", two, "lc")
	want(t, "P8.6: Freed while at work", []int{one.Freed(), two.Freed()}, []int{0, 1})
	w.limbo(9)
	w.play("one", one, "c")
	want(t, "P8.6: Freed while at work", []int{one.Freed(), two.Freed()}, []int{1, 1})
	w.finish("two", two, "lcl", api.OK, 2)
	w.finish("one", one, "l", api.OK, 1)
	w.amounts("both", 0, 3, 3)
}

// A slot that other hands have freed is refused; its entry is gone, and nothing was freed by the sweeper.
func TestReclaimOfAFreeSlot(t *testing.T) {
	w := newWorld(t, 8, 1, 2, 9)
	slots := w.limbo(9, 9, 9)
	w.Cells.Free(slots[1])
	m := w.Reclaim(10, 9)
	w.finish("P8.4: a Free that is refused", m, "lc"+"l"+"x", api.ErrSlot, 1)
	w.amounts("P8.4: a Free that is refused", 1, 3, 1)
	w.finish("P8.6: the rest", w.Reclaim(10, 9), "lcl", api.OK, 1)
}

// Two sweepers over one base have a limbo each.
func TestReclaimOfAnotherSweeper(t *testing.T) {
	w := newWorld(t, 8, 1, 2, 9)
	other := w.another()
	w.limbo(9, 9)
	other.limbo(9)
	other.finish("P8.6: the other's limbo", other.Reclaim(10, 9), "lcl", api.OK, 1)
	w.amounts("P8.2: the one", 2, 2, 0)
	other.amounts("P8.2: the other", 0, 1, 1)
	w.finish("P8.6: its own limbo", w.Reclaim(10, 9), "lclcl", api.OK, 2)
}
