package valid_test

import (
	"fmt"
	"testing"

	"strata/api"
	"strata/valid"
)

// others is a base with a transaction 1 for which is looked at 10, and with others in every state: 2 Active, 3 Preparing with no end yet, 4 Preparing and 5 Committed with the ends 8 and 9, 6 Preparing and 7 Committed with the ends 11 and 12, 8 Aborted. Record 9 is not in use, and there is no place 10.
func others(t *testing.T) *world {
	t.Helper()
	w := newWorld(t, 100, 9, 7)
	w.open(8)
	w.move(3, api.TxPreparing)
	w.draw(4)
	w.draw(5)
	w.Tx.Tick()
	w.draw(6)
	w.draw(7)
	w.move(5, api.TxCommitted)
	w.move(7, api.TxCommitted)
	w.move(8, api.TxAborted)
	return w
}

// Every kind of word, for transaction 1 at 10. What is asked behind the first load is See's (P7.5).
func TestReadsOfEveryKindOfWord(t *testing.T) {
	for _, c := range []struct {
		begin, end, accesses string
		e                    api.Errno
	}{
		{"3", "inf", "ccc", api.OK},
		{"9", "11", "ccc", api.OK},
		{"10", "11", "ccc", api.OK},
		{"10", "10", "ccc", api.ErrRead},
		{"0", "0", "ccc", api.ErrRead},
		{"9", "10", "ccc", api.ErrRead},
		{"3", "9", "ccc", api.ErrRead},
		{"11", "inf", "cc", api.ErrRead},
		{"11", "12", "cc", api.ErrRead},
		{"inf", "inf", "cc", api.ErrRead},
		{"inf", "3", "cc", api.ErrRead},
		{"#1", "inf", "ccc", api.OK},
		{"#1", "11", "ccc", api.OK},
		{"#1", "9", "ccc", api.ErrRead},
		// its own end word: nothing else is looked at
		{"3", "#1", "c", api.OK},
		{"11", "#1", "c", api.OK},
		{"inf", "#1", "c", api.OK},
		{"bad", "#1", "c", api.OK},
		{"#1", "#1", "c", api.OK},
		{"#2", "#1", "c", api.OK},
		// a word that is nothing
		{"3", "bad", "c", api.ErrRange},
		{"11", "bad", "c", api.ErrRange},
		{"#1", "bad", "c", api.ErrRange},
		{"bad", "bad", "c", api.ErrRange},
		{"bad", "inf", "cc", api.ErrRange},
		{"bad", "9", "cc", api.ErrRange},
		// another one's end word
		{"3", "#2", "ccct", api.OK},
		{"3", "#3", "ccctttt", api.OK},
		{"3", "#4", "ccctt" + "ttt", api.ErrRead},
		{"3", "#5", "ccctt", api.ErrRead},
		{"3", "#6", "ccctt", api.OK},
		{"3", "#7", "ccctt", api.OK},
		{"3", "#8", "ccct", api.OK},
		{"3", "#9", "ccctx", api.ErrTx},
		{"3", "#10", "ccct", api.ErrTx},
		{"11", "#2", "cc", api.ErrRead},
		// another one's begin word
		{"#2", "inf", "cct", api.ErrRead},
		{"#3", "inf", "cctttt", api.ErrRead},
		{"#4", "inf", "cctt" + "c" + "ttt", api.OK},
		{"#4", "10", "cctt" + "c", api.ErrRead},
		{"#5", "inf", "cctt" + "c", api.OK},
		{"#5", "9", "cctt" + "c", api.ErrRead},
		{"#6", "inf", "cctt", api.ErrRead},
		{"#7", "inf", "cctt", api.ErrRead},
		{"#8", "inf", "cct", api.ErrRead},
		{"#9", "inf", "cctx", api.ErrTx},
		{"#10", "inf", "cct", api.ErrTx},
		{"#4", "#2", "cctt" + "ct" + "ttt", api.OK},
		{"#5", "#5", "cctt" + "ctt", api.ErrRead},
		{"#5", "#7", "cctt" + "ctt", api.OK},
	} {
		for name, begin := range map[string]func(*world) machine{
			"Reads":                 func(w *world) machine { return valid.NewReads(w.Base, 1, sees(t, []int{1}, "", ""), 10) },
			"Check, RepeatableRead": func(w *world) machine { return valid.NewCheck(w.Base, 1, 3, sees(t, []int{1}, "", ""), 10) },
			"Check, Serializable":   func(w *world) machine { return valid.NewCheck(w.Base, 1, 4, sees(t, []int{1}), 10) },
		} {
			w := others(t)
			w.put("a", c.begin, c.end)
			w.finish(fmt.Sprintf("P9.3: %s: a version from %s to %s", name, c.begin, c.end), begin(w), c.accesses, c.e)
		}
	}
}

// A reader that found one about to commit waits for its fate, whatever it comes to itself.
func TestReadsDepend(t *testing.T) {
	w := others(t)
	w.put("a", "3", "#4")
	w.put("c", "#4", "inf")
	w.finish("P9.3: about to be ended", valid.NewReads(w.Base, 1, sees(t, []int{1}), 10), "cccttttt", api.ErrRead)
	w.waits("P9.3: about to be ended", 1, 1, 0)
	w.finish("P9.3: about to begin, taken before", valid.NewReads(w.Base, 1, sees(t, []int{2}), 10), "ccttcttt", api.OK)
	w.waits("P9.3: about to begin", 1, 1, 0)
	w.finish("P9.3: not yet there, at 7", valid.NewReads(w.Base, 1, sees(t, []int{2}), 7), "cctt", api.ErrRead)
	w.finish("P9.3: still there, at 7", valid.NewReads(w.Base, 1, sees(t, []int{1}), 7), "ccctt", api.OK)
	w.finish("P9.3: for another one", valid.NewReads(w.Base, 2, sees(t, []int{2}), 10), "ccttctttt", api.OK)
	w.waits("P9.3: for another one", 2, 1, 0)
}

func TestReadsWithNoRoomToDepend(t *testing.T) {
	w := newWorld(t, 4, 12, 7)
	w.open(11)
	w.draw(2)
	for id := 4; id <= 11; id++ {
		w.alone(w.Tx.Depend(id, 2))
	}
	w.put("a", "3", "#2")
	w.put("c", "#2", "inf")
	full := "t" + "tttttttt" + "t"
	w.finish("P9.3: no room to depend", valid.NewReads(w.Base, 1, sees(t, []int{1}), 10), "ccctt"+full, api.ErrDeps)
	w.finish("P9.3: no room to depend", valid.NewReads(w.Base, 1, sees(t, []int{2}), 10), "ccttc"+full, api.ErrDeps)
	w.finish("P9.5: no room to depend", valid.NewCheck(w.Base, 1, 4, sees(t, []int{1}, "", ""), 10), "ccctt"+full, api.ErrDeps)
	w.waits("P9.3: no room to depend", 1, 0, 0)
}

// Its own end can't be drawn any more: the error of the part is that of the whole.
func TestReadsAtTheLastTimestamp(t *testing.T) {
	w := newWorld(t, 4, 3, api.MaxTime)
	w.open(2)
	w.move(2, api.TxPreparing)
	w.put("a", "3", "#2")
	w.put("c", "#2", "inf")
	w.finish("P9.3: no timestamp is left", valid.NewReads(w.Base, 1, sees(t, []int{1}), api.MaxTime), "ccc"+"ttt", api.ErrClock)
	w.finish("P9.3: no timestamp is left", valid.NewReads(w.Base, 1, sees(t, []int{2}), api.MaxTime), "cc"+"ttt", api.ErrClock)
}

// One that has terminated says nothing: the word is loaded again, till it is another one.
func TestReadsOfTerminated(t *testing.T) {
	w := newWorld(t, 4, 3, 7)
	w.open(2)
	w.put("a", "3", "#2")
	w.move(2, api.TxAborted, api.TxTerminated)
	m := valid.NewReads(w.Base, 1, sees(t, []int{1}), 10)
	w.play("P9.3: one that has terminated", m, "ccctctct")
	w.write(1, 3, api.Infinity)
	w.finish("P9.3: one that has terminated", m, "c", api.OK)
}

// All versions, in their order, till one is not as it has to be.
func TestReadsInOrder(t *testing.T) {
	lay := func() *world {
		w := newWorld(t, 8, 3, 7)
		w.open(1)
		w.put("a", "3", "inf")  // 1: seen
		w.put("a", "3", "#1")   // 2: its own
		w.put("c", "11", "inf") // 3: not seen
		w.put("d", "3", "bad")  // 4
		w.put("k", "2", "11")   // 5: seen
		return w
	}
	for _, c := range []struct {
		slots    []int
		accesses string
		e        api.Errno
	}{
		{[]int{1, 2, 5}, "ccc" + "c" + "ccc", api.OK},
		{[]int{5, 2, 1, 5, 2}, "ccc" + "c" + "ccc", api.OK},
		{[]int{2}, "c", api.OK},
		{[]int{2, 2, 1}, "c" + "ccc", api.OK},
		{[]int{1, 3, 4}, "ccc" + "cc", api.ErrRead},
		{[]int{4, 3, 1}, "c", api.ErrRange},
		{[]int{3, 4}, "cc", api.ErrRead},
		{[]int{2, 4, 3}, "cc", api.ErrRange},
		{[]int{2, 7, 3}, "cx", api.ErrSlot},
		{[]int{7, 3}, "x", api.ErrSlot},
		{[]int{3, 7}, "cc", api.ErrRead},
	} {
		for name, begin := range map[string]func(*world) machine{
			"Reads":                 func(w *world) machine { return valid.NewReads(w.Base, 1, sees(t, c.slots, "", ""), 10) },
			"Check, RepeatableRead": func(w *world) machine { return valid.NewCheck(w.Base, 1, 3, sees(t, c.slots, "", ""), 10) },
			"Check, Serializable":   func(w *world) machine { return valid.NewCheck(w.Base, 1, 4, sees(t, c.slots), 10) },
		} {
			w := lay()
			w.finish(fmt.Sprint("P9.3: ", name, " of ", c.slots), begin(w), c.accesses, c.e)
		}
	}
}

// As many as a set holds.
func TestReadsOfMany(t *testing.T) {
	w := newWorld(t, api.MaxIntents+1, 2, 7)
	w.open(1)
	accesses := ""
	for i := range api.MaxIntents {
		w.put(fmt.Sprint("key ", i), "3", []string{"inf", "#1"}[i%2])
		accesses += []string{"ccc", "c"}[i%2]
	}
	w.finish("P9.3: as many as may be", valid.NewReads(w.Base, 1, sees(t, upTo(1, api.MaxIntents)), 10), accesses, api.OK)
	w.write(api.MaxIntents, 3, 10)
	w.finish("P9.3: the last one is gone", valid.NewReads(w.Base, 1, sees(t, upTo(1, api.MaxIntents)), 10), accesses+"cc", api.ErrRead)
}

// A set may hold any numbers: those of no slot end the machine.
func TestReadsOfAnyNumbers(t *testing.T) {
	for _, slot := range strange() {
		w := newWorld(t, 8, 3, 7)
		w.open(1)
		w.put("a", "3", "inf")
		m := valid.NewReads(w.Base, 1, sees(t, []int{slot}), 10)
		old := w.count()
		for n := 0; !m.Step(); n++ {
			if n > 3 {
				t.Fatalf("Reads of %d does not end", slot)
			}
		}
		made := w.since(old)
		_, e := w.Cells.Load(slot, api.CellEnd)
		if slot == 1 {
			want(t, "P9.3: Reads of 1", []any{made, m.Code()}, []any{"ccc", api.OK})
			continue
		}
		again := w.count()
		w.Cells.Load(slot, api.CellEnd)
		want(t, fmt.Sprint("P9.3: Reads of ", slot), []any{made, m.Code()}, []any{w.since(again), e})
		want(t, fmt.Sprint("P9.3: Reads of ", slot), e, api.ErrSlot)
	}
}

// Any number may be the timestamp.
func TestReadsAtAnyTimestamp(t *testing.T) {
	for _, at := range stamps() {
		for _, end := range append(stamps(), 3, 4) {
			w := newWorld(t, 8, 3, 7)
			w.open(1)
			w.put("a", "2", "inf")
			w.write(1, 2, end)
			accesses, e := "ccc", api.ErrRead
			switch kind := kindOf(end); {
			case kind == "bad":
				accesses, e = "c", api.ErrRange
			case end == word(1):
				accesses, e = "c", api.OK
			case at < 2:
				accesses = "cc"
			case kind == "transaction":
				accesses, e = "ccct", api.ErrTx
			case kind == "infinity" || at < end:
				e = api.OK
			}
			what := fmt.Sprintf("P9.3: a version that ends at %d, at %d", end, at)
			w.finish(what, valid.NewReads(w.Base, 1, sees(t, []int{1}), at), accesses, e)
		}
	}
}

// kindOf tells what a word is.
func kindOf(w uint64) string {
	switch {
	case w == 1<<63-1:
		return "infinity"
	case w>>62 == 0:
		return "time"
	case w>>62 == 2:
		return "transaction"
	}
	return "bad"
}

func TestReadsOfNothing(t *testing.T) {
	w := newWorld(t, 8, 3, 7)
	w.open(1)
	w.put("a", "3", "bad")
	w.refused("P9.3: no versions", valid.NewReads(w.Base, 1, valid.NewSees(), 10), api.OK)
	w.refused("P9.3: no versions, but a range", valid.NewReads(w.Base, 1, sees(t, nil, "", ""), 10), api.OK)
}

// The words are loaded one by one: what stands there at that step counts.
func TestReadsBetweenTheSteps(t *testing.T) {
	for _, c := range []struct {
		what       string
		ahead      string
		begin, end string // the words from then on
		accesses   string
		e          api.Errno
	}{
		{"it is ended ahead of all", "", "3", "5", "ccc", api.ErrRead},
		{"it is ended behind the first load", "c", "3", "5", "cc", api.ErrRead},
		{"it is ended behind See's first load", "cc", "3", "5", "c", api.ErrRead},
		{"it is taken by itself ahead of all", "", "3", "#1", "c", api.OK},
		{"it is taken by itself behind the first load", "c", "3", "#1", "cc", api.ErrRead},
		{"it is given up behind the first load", "c", "inf", "inf", "c", api.ErrRead},
		{"its end is nothing, behind the first load", "c", "3", "bad", "cc", api.ErrRange},
		{"its begin is nothing, behind See's first load", "cc", "bad", "inf", "c", api.OK},
	} {
		w := newWorld(t, 8, 3, 7)
		w.open(1)
		w.put("a", "3", "inf")
		m := valid.NewReads(w.Base, 1, sees(t, []int{1}), 10)
		w.play(c.what, m, c.ahead)
		w.write(1, wordOf(c.begin), wordOf(c.end))
		w.finish("P9.3: "+c.what, m, c.accesses, c.e)
	}
	for ahead := range 3 {
		w := newWorld(t, 8, 3, 7)
		w.open(1)
		w.put("a", "3", "inf")
		m := valid.NewReads(w.Base, 1, sees(t, []int{1}), 10)
		w.play("P9.3: it is freed", m, "ccc"[:ahead])
		w.Cells.Free(1)
		w.finish(fmt.Sprintf("P9.3: it is freed behind %d steps", ahead), m, "x", api.ErrSlot)
	}
}

// What is noted behind the making of a machine does not count for it; it does for the next one.
func TestReadsOfWhatWasNotedByThen(t *testing.T) {
	w := newWorld(t, 8, 3, 7)
	w.open(1)
	w.put("a", "3", "inf")
	w.put("c", "11", "inf")
	s := sees(t, []int{1})
	none := valid.NewReads(w.Base, 1, valid.NewSees(), 10)
	one := valid.NewReads(w.Base, 1, s, 10)
	w.play("P9.3: its first step", one, "c")
	s.Read(2)
	two := valid.NewReads(w.Base, 1, s, 10)
	w.finish("P9.3: noted later", one, "cc", api.OK)
	w.finish("P9.3: noted by then", two, "ccc"+"cc", api.ErrRead)
	w.refused("P9.3: nothing noted", none, api.OK)
	holds(t, "P9.3: the set is as it was", s, []int{1, 2})
}

// Words that were told ahead are not asked again: two machines by turns are in nobody's way.
func TestReadsByTurns(t *testing.T) {
	w := newWorld(t, 8, 3, 7)
	w.open(2)
	w.put("a", "3", "#1")
	w.put("c", "3", "#2")
	one := valid.NewReads(w.Base, 1, sees(t, []int{1, 2}), 10)
	two := valid.NewReads(w.Base, 2, sees(t, []int{1, 2}), 10)
	w.play("P9.3: by turns", one, "c")
	w.play("P9.3: by turns", two, "ccc")
	w.play("P9.3: by turns", one, "cc")
	w.play("P9.3: by turns", two, "t")
	w.play("P9.3: by turns", one, "c")
	w.finish("P9.3: by turns", two, "c", api.OK)
	w.finish("P9.3: by turns", one, "t", api.OK)
}
