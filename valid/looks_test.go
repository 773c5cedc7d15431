package valid_test

import (
	"fmt"
	"strings"
	"testing"

	"strata/api"
	"strata/valid"
)

// heads are the loads of a walk that goes down at the head, when nothing stands at the upper levels; the keys of these tests have the height 1, if nothing else is said.
const heads = "oooo"

// Every kind of word, for transaction 1 at 10, of a version that is not in the set: behind the heads and the link its begin word, then See.
func TestLooksOfEveryKindOfWord(t *testing.T) {
	for _, c := range []struct {
		begin, end, accesses string
		e                    api.Errno
	}{
		{"3", "inf", "ccc", api.ErrPhantom},
		{"10", "11", "ccc", api.ErrPhantom},
		{"0", "inf", "ccc", api.ErrPhantom},
		{"9", "10", "ccc", api.OK},
		{"3", "9", "ccc", api.OK},
		{"11", "inf", "cc", api.OK},
		{"inf", "inf", "cc", api.OK},
		{"inf", "bad", "cc", api.OK},
		// its own end word is that of another one's version: See takes it as gone
		{"3", "#1", "ccc", api.OK},
		// its own begin word: nothing else is looked at
		{"#1", "inf", "c", api.OK},
		{"#1", "#1", "c", api.OK},
		{"#1", "#2", "c", api.OK},
		{"#1", "bad", "c", api.OK},
		{"#1", "11", "c", api.OK},
		// a word that is nothing
		{"bad", "inf", "c", api.ErrRange},
		{"bad", "#1", "c", api.ErrRange},
		{"bad", "bad", "c", api.ErrRange},
		{"3", "bad", "ccc", api.ErrRange},
		{"11", "bad", "cc", api.OK},
		// another one's begin word
		{"#2", "inf", "cct", api.OK},
		{"#3", "inf", "cctttt", api.OK},
		{"#4", "inf", "cctt" + "c" + "ttt", api.ErrPhantom},
		{"#4", "10", "cctt" + "c", api.OK},
		{"#5", "inf", "cctt" + "c", api.ErrPhantom},
		{"#5", "9", "cctt" + "c", api.OK},
		{"#6", "inf", "cctt", api.OK},
		{"#7", "inf", "cctt", api.OK},
		{"#8", "inf", "cct", api.OK},
		{"#9", "inf", "cctx", api.ErrTx},
		{"#10", "inf", "cct", api.ErrTx},
		// another one's end word
		{"3", "#2", "ccct", api.ErrPhantom},
		{"3", "#3", "ccctttt", api.ErrPhantom},
		{"3", "#4", "ccctt" + "ttt", api.OK},
		{"3", "#5", "ccctt", api.OK},
		{"3", "#6", "ccctt", api.ErrPhantom},
		{"3", "#7", "ccctt", api.ErrPhantom},
		{"3", "#8", "ccct", api.ErrPhantom},
		{"3", "#9", "ccctx", api.ErrTx},
		{"3", "#10", "ccct", api.ErrTx},
		{"#4", "#2", "cctt" + "ct" + "ttt", api.ErrPhantom},
	} {
		for name, begin := range map[string]func(*world) machine{
			"Looks": func(w *world) machine { return valid.NewLooks(w.Base, 1, sees(t, nil, "", ""), 10) },
			"Check": func(w *world) machine { return valid.NewCheck(w.Base, 1, 4, sees(t, nil, "", ""), 10) },
		} {
			w := others(t)
			w.put("a", c.begin, c.end)
			w.finish(fmt.Sprintf("P9.4: %s: a version from %s to %s", name, c.begin, c.end), begin(w), heads+"c"+c.accesses, c.e)
			w = others(t)
			w.put("a", c.begin, c.end)
			w.finish(fmt.Sprintf("P9.4: one in the set, from %s to %s", c.begin, c.end), valid.NewLooks(w.Base, 1, sees(t, []int{1}, "", ""), 10), heads+"c", api.OK)
		}
	}
}

// A reader that passes over what is about to be committed, or would see it, waits for the other's fate.
func TestLooksDepend(t *testing.T) {
	w := others(t)
	w.put("a", "3", "#4")
	s := sees(t, nil, "", "")
	w.finish("P9.4: about to be ended", valid.NewLooks(w.Base, 1, s, 10), heads+"c"+"cccttttt", api.OK)
	w.waits("P9.4: about to be ended", 1, 1, 0)
	w.finish("P9.4: about to be ended, for another one", valid.NewLooks(w.Base, 2, s, 10), heads+"c"+"ccctttttt", api.OK)
	w.waits("P9.4: about to be ended", 2, 1, 0)
	w.finish("P9.4: at 7", valid.NewLooks(w.Base, 1, s, 7), heads+"c"+"ccctt", api.ErrPhantom)
}

func TestLooksWithNoRoomToDepend(t *testing.T) {
	w := newWorld(t, 4, 12, 7)
	w.open(11)
	w.draw(2)
	for id := 4; id <= 11; id++ {
		w.alone(w.Tx.Depend(id, 2))
	}
	w.put("a", "3", "#2")
	full := "t" + "tttttttt" + "t"
	w.finish("P9.4: no room to depend", valid.NewLooks(w.Base, 1, sees(t, nil, "", ""), 10), heads+"cccctt"+full, api.ErrDeps)
	w.finish("P9.5: no room to depend", valid.NewCheck(w.Base, 1, 4, sees(t, nil, "", ""), 10), heads+"cccctt"+full, api.ErrDeps)
	w.waits("P9.4: no room to depend", 1, 0, 0)
}

// One that has terminated says nothing: the word is loaded again, till it is another one.
func TestLooksOfTerminated(t *testing.T) {
	w := newWorld(t, 4, 3, 7)
	w.open(2)
	w.put("a", "#2", "inf")
	w.move(2, api.TxAborted, api.TxTerminated)
	m := valid.NewLooks(w.Base, 1, sees(t, nil, "", ""), 10)
	w.play("P9.4: one that has terminated", m, heads+"c"+"cctctct")
	w.write(1, api.Infinity, api.Infinity)
	w.finish("P9.4: one that has terminated", m, "c", api.OK)
}

// row is a base with the versions 1 to 6 of the keys a, c, c, d, k, n: none is seen at 10, so that Looks goes along all of a range. One version costs its link, its begin word and See's load of it.
func row(t *testing.T) *world {
	w := newWorld(t, 12, 3, 7)
	w.open(1)
	for _, key := range []string{"a", "c", "c", "d", "k", "n"} {
		w.put(key, "11", "inf")
	}
	return w
}

// Which keys are in a range: Low is, High is not; no High has no bound. The walk passes those below Low by (one load each), and stands at one that is not in the range, if there is one behind it.
func TestRanges(t *testing.T) {
	const one, past, beyond = "ccc", "c", "c"
	times := strings.Repeat
	for _, c := range []struct{ low, high, accesses string }{
		{"", "", heads + times(one, 6)},
		{"a", "", heads + times(one, 6)},
		{"a", "c", heads + one + beyond},
		{"a", "a\x00", heads + one + beyond},
		{"a", "d", heads + times(one, 3) + beyond},
		{"a", "c\x00", heads + times(one, 3) + beyond},
		{"b", "c", heads + past + beyond},
		{"c", "d", heads + past + times(one, 2) + beyond},
		{"c", "c\x00", heads + past + times(one, 2) + beyond},
		{"c\x00", "d", heads + times(past, 3) + beyond},
		{"c\x00", "d\x00", heads + times(past, 3) + one + beyond},
		{"d", "n", heads + times(past, 3) + times(one, 2) + beyond},
		{"d", "n\x00", heads + times(past, 3) + times(one, 3)},
		{"d", "z", heads + times(past, 3) + times(one, 3)},
		{"d", "", heads + times(past, 3) + times(one, 3)},
		{"n", "", heads + times(past, 5) + one},
		{"n", "n", heads + times(past, 5) + beyond},
		{"n\x00", "", heads + times(past, 6)},
		{"z", "", heads + times(past, 6)},
		{"\xff\xff", "", heads + times(past, 6)},
		// ranges with no key in them
		{"", "a", heads + beyond},
		{"", "\x00", heads + beyond},
		{"A", "B", heads + beyond},
		{"c", "c", heads + past + beyond},
		{"d", "a", heads + times(past, 3) + beyond},
		{"n", "a", heads + times(past, 5) + beyond},
		{"z", "a", heads + times(past, 6)},
		{"e", "f", heads + times(past, 4) + beyond},
		{"k\x00", "n", heads + times(past, 5) + beyond},
		{"o", "p", heads + times(past, 6)},
		// longer bounds than any key
		{strings.Repeat("c", 1000), "d", heads + times(past, 3) + beyond},
		{"c", strings.Repeat("c", 1000), heads + past + times(one, 2) + beyond},
	} {
		w := row(t)
		what := fmt.Sprintf("P9.4: the range from %.9q to %.9q", c.low, c.high)
		w.finish(what, valid.NewLooks(w.Base, 1, sees(t, nil, c.low, c.high), 10), c.accesses, api.OK)
		// what is seen in the range is a phantom, what is outside of it is none
		for slot, key := range []string{1: "a", 2: "c", 3: "c", 4: "d", 5: "k", 6: "n"} {
			if slot == 0 {
				continue
			}
			w.write(slot, 3, api.Infinity)
			e := api.OK
			if key >= c.low && (c.high == "" || key < c.high) {
				e = api.ErrPhantom
			}
			m := valid.NewLooks(w.Base, 1, sees(t, nil, c.low, c.high), 10)
			w.run(m)
			want(t, fmt.Sprintf("%s: version %d of %q", what, slot, key), m.Code(), e)
			known := valid.NewLooks(w.Base, 1, sees(t, []int{slot}, c.low, c.high), 10)
			w.run(known)
			want(t, fmt.Sprintf("%s: version %d of %q, in the set", what, slot, key), known.Code(), api.OK)
			w.write(slot, 11, api.Infinity)
		}
	}
}

// The versions in the set cost their link alone; others are looked at, and the first that is seen ends it.
func TestLooksAlongARange(t *testing.T) {
	const one = "ccc"
	for _, c := range []struct {
		what     string
		change   func(w *world)
		slots    []int
		accesses string
		e        api.Errno
	}{
		{"all in the set", func(w *world) {}, upTo(1, 6), "cccccc", api.OK},
		{"some in the set", func(w *world) {}, []int{5, 2, 1}, "cc" + one + one + "c" + one, api.OK},
		{"others in the set", func(w *world) {}, []int{0, -1, 7, 99}, strings.Repeat(one, 6), api.OK},
		{"the last but one is seen", func(w *world) { w.write(5, 3, 11) }, nil, strings.Repeat(one, 4) + "cccc", api.ErrPhantom},
		{"the last is seen", func(w *world) { w.write(6, 3, 11) }, []int{4}, strings.Repeat(one, 3) + "c" + one + "cccc", api.ErrPhantom},
		{"the first of two that are seen", func(w *world) { w.write(3, 3, 11); w.write(2, 3, 11) }, nil, one + "cccc", api.ErrPhantom},
		{"the second of two that are seen", func(w *world) { w.write(3, 3, 11); w.write(2, 3, 11) }, []int{2}, one + "c" + "cccc", api.ErrPhantom},
		{"one that is its own", func(w *world) { w.write(3, word(1), 11) }, nil, one + one + "cc" + one + one + one, api.OK},
		{"a word that is nothing", func(w *world) { w.write(3, 1<<62, 11) }, nil, one + one + "cc", api.ErrRange},
		{"a word that is nothing, in the set", func(w *world) { w.write(3, 1<<62, 1<<62) }, []int{3}, one + one + "c" + one + one + one, api.OK},
	} {
		for name, high := range map[string]string{"to the end": "", "up to a bound": "n\x00"} {
			w := row(t)
			c.change(w)
			w.finish("P9.4: "+c.what+" "+name, valid.NewLooks(w.Base, 1, sees(t, c.slots, "", high), 10), heads+c.accesses, c.e)
		}
	}
}

// The ranges are gone through in their order, each from the head on, till one is not as it has to be.
func TestLooksInOrder(t *testing.T) {
	const one = "ccc"
	for _, c := range []struct {
		what     string
		seen     int // a version that is seen; 0: none
		bounds   []string
		accesses string
		e        api.Errno
	}{
		{"two", 0, []string{"k", "", "a", "c"}, heads + "cccc" + one + one + heads + one + "c", api.OK},
		{"one twice", 0, []string{"n", "", "n", ""}, heads + "ccccc" + one, api.OK},
		{"two that share keys", 0, []string{"k", "", "d", "n"}, heads + "cccc" + one + one + heads + "ccc" + one + one + "c", api.OK},
		{"two of no keys, and one", 0, []string{"z", "", "", "A", "n", ""}, heads + "cccccc" + heads + "c" + heads + "ccccc" + one, api.OK},
		{"something new in the second", 1, []string{"k", "", "", "c", "n", ""}, heads + "cccc" + one + one + heads + "cccc", api.ErrPhantom},
		{"something new in the first", 1, []string{"", "c", "k", ""}, heads + "cccc", api.ErrPhantom},
		{"something new in the last", 6, []string{"", "c", "n", ""}, heads + one + "c" + heads + "ccccc" + "cccc", api.ErrPhantom},
		{"something new in none", 6, []string{"", "c", "d", "k"}, heads + one + "c" + heads + "ccc" + one + "c", api.OK},
	} {
		for name, begin := range map[string]func(*world) machine{
			"Looks": func(w *world) machine { return valid.NewLooks(w.Base, 1, sees(t, nil, c.bounds...), 10) },
			"Check": func(w *world) machine { return valid.NewCheck(w.Base, 1, 4, sees(t, nil, c.bounds...), 10) },
		} {
			w := row(t)
			if c.seen != 0 {
				w.write(c.seen, 3, 11)
			}
			w.finish("P9.4: "+name+": "+c.what, begin(w), c.accesses, c.e)
		}
	}
}

// As many as a set holds.
func TestLooksOfMany(t *testing.T) {
	w := row(t)
	var bounds []string
	accesses := ""
	for i := range api.MaxIntents {
		bounds = append(bounds, "k", fmt.Sprint("k", i+10))
		accesses += heads + "cccc" + "ccc" + "c"
	}
	w.finish("P9.4: as many as may be", valid.NewLooks(w.Base, 1, sees(t, nil, bounds...), 10), accesses, api.OK)
}

func TestLooksOfNothing(t *testing.T) {
	w := row(t)
	w.write(1, 3, api.Infinity)
	w.refused("P9.4: no ranges", valid.NewLooks(w.Base, 1, valid.NewSees(), 10), api.OK)
	w.refused("P9.4: no ranges, but a version", valid.NewLooks(w.Base, 1, sees(t, []int{9}), 10), api.OK)
	empty := newWorld(t, 4, 2, 7)
	empty.open(1)
	empty.finish("P9.4: nothing stands there", valid.NewLooks(empty.Base, 1, sees(t, nil, "", ""), 10), heads, api.OK)
	empty.finish("P9.4: nothing stands there, twice", valid.NewLooks(empty.Base, 1, sees(t, []int{3}, "", "", "a", "b"), 10), heads+heads, api.OK)
}

// Keys of greater heights: the walk takes the upper levels.
func TestLooksWithHeights(t *testing.T) {
	w := newWorld(t, 8, 2, 7)
	w.open(1)
	w.put("aa", "11", "inf") // height 4
	w.put("b", "11", "inf")  // height 2
	w.put("q", "11", "inf")  // height 3
	w.put("zz", "3", "inf")  // height 4
	// at level 3: aa is below, zz is not; then down beside aa, along b at level 1, to q at level 0.
	w.finish("P9.4: heights", valid.NewLooks(w.Base, 1, sees(t, nil, "c", "r"), 10), "o"+"c"+"c"+"c"+"c"+"c"+"ccc"+"c", api.OK)
	w.finish("P9.4: heights", valid.NewLooks(w.Base, 1, sees(t, nil, "c", ""), 10), "o"+"c"+"c"+"c"+"c"+"c"+"ccc"+"cccc", api.ErrPhantom)
}

// Any strings are bounds, and any number is a timestamp.
func TestLooksOfAnything(t *testing.T) {
	for _, low := range texts() {
		for _, high := range texts() {
			for _, at := range stamps() {
				w := newWorld(t, 4, 2, 7)
				w.open(1)
				w.put("k", "2", "5")
				e := api.OK
				if low <= "k" && (high == "" || "k" < high) && at >= 2 && at < 5 {
					e = api.ErrPhantom
				}
				m := valid.NewLooks(w.Base, 1, sees(t, nil, low, high), at)
				w.run(m)
				want(t, fmt.Sprintf("P9.4: the range from %.9q to %.9q at %d", low, high, at), m.Code(), e)
			}
		}
	}
}

// What comes and goes between the steps.
func TestLooksBetweenTheSteps(t *testing.T) {
	lay := func() *world {
		w := newWorld(t, 8, 3, 7)
		w.open(2)
		w.put("c", "11", "inf")
		w.put("k", "11", "inf")
		return w
	}
	all := sees(t, nil, "", "")

	w := lay()
	m := valid.NewLooks(w.Base, 1, all, 10)
	w.play("one that is new behind the walk", m, heads+"ccc")
	w.put("d", "3", "inf")
	w.finish("P9.4: the walk knows what comes next", m, "ccc", api.OK)

	w = lay()
	m = valid.NewLooks(w.Base, 1, all, 10)
	w.play("one that is new ahead of the walk", m, heads+"ccc")
	w.put("n", "3", "inf")
	w.finish("P9.4: one that is new ahead of the walk", m, "ccc"+"cccc", api.ErrPhantom)

	w = lay()
	m = valid.NewLooks(w.Base, 1, all, 10)
	w.play("one that is new at the end", m, heads+"ccc"+"cc")
	w.put("n", "3", "inf")
	w.finish("P9.4: a walk that is ended is not stepped on", m, "c", api.OK)

	w = lay()
	m = valid.NewLooks(w.Base, 1, all, 10)
	w.play("one that is taken out", m, heads+"ccc")
	w.alone(w.Order.Remove(2))
	w.finish("P9.4: one that is taken out is not stood at, at the end", m, "c", api.OK)

	w = lay()
	w.put("n", "3", "inf")
	m = valid.NewLooks(w.Base, 1, all, 10)
	w.play("one that is taken out", m, heads+"ccc")
	w.alone(w.Order.Remove(2))
	w.finish("P9.4: one that is taken out is not stood at", m, "c"+"cccc", api.ErrPhantom)

	for _, c := range []struct {
		what, ahead, begin, end, accesses string
		e                                 api.Errno
	}{
		{"it begins behind the link", "c", "3", "inf", "ccc", api.ErrPhantom},
		{"it begins behind the begin word's load", "cc", "3", "inf", "cc", api.ErrPhantom},
		{"it becomes its own behind the link", "c", "#1", "inf", "c", api.OK},
		{"it becomes its own behind the begin word's load", "cc", "#1", "inf", "cc", api.ErrPhantom},
		{"its begin is nothing behind the begin word's load", "cc", "bad", "inf", "c", api.ErrRange},
	} {
		w := newWorld(t, 8, 3, 7)
		w.open(1)
		w.put("c", "11", "inf")
		m := valid.NewLooks(w.Base, 1, all, 10)
		w.play(c.what, m, heads+c.ahead)
		w.write(1, wordOf(c.begin), wordOf(c.end))
		w.finish("P9.4: "+c.what, m, c.accesses, c.e)
	}
}

// A slot that is freed, against the rules, ends the machine in that step: where a link is loaded, where a word is.
func TestLooksOfAFreedSlot(t *testing.T) {
	for ahead := range 3 {
		w := newWorld(t, 8, 3, 7)
		w.open(1)
		w.put("c", "3", "inf")
		m := valid.NewLooks(w.Base, 1, sees(t, nil, "", ""), 10)
		w.play("freed", m, (heads + "ccc")[:len(heads)+ahead])
		w.Cells.Free(1)
		w.finish(fmt.Sprintf("P9.4: it is freed behind %d steps", ahead), m, "x", api.ErrSlot)
	}
	w := newWorld(t, 8, 3, 7)
	w.open(1)
	w.put("c", "3", "inf")
	w.Cells.Free(1)
	early := valid.NewLooks(w.Base, 1, sees(t, nil, "a", ""), 10)
	w.play("freed from the beginning", early, "ooo")
	// the walk asks for the key of what the head leads to: that is a miss and no access
	want(t, "P9.4: freed from the beginning", []any{w.run(early), early.Code()}, []any{"ox", api.ErrSlot})

	// a slot that has come back with a key below the range is not in it: the range is through
	w = newWorld(t, 1, 3, 7)
	w.open(1)
	w.put("k", "3", "inf")
	m := valid.NewLooks(w.Base, 1, sees(t, nil, "d", "", "z", ""), 10)
	w.play("a slot that comes back", m, heads)
	w.alone(w.Order.Remove(1))
	w.alone(w.Hash.Remove(0, 1))
	w.Cells.Free(1)
	w.put("c", "3", "inf")
	w.finish("P9.4: a key below the range", m, "c"+heads+"c", api.OK)
}

// What is noted behind the making of a machine does not count for it; it does for the next one.
func TestLooksOfWhatWasNotedByThen(t *testing.T) {
	w := newWorld(t, 8, 3, 7)
	w.open(1)
	w.put("c", "3", "inf")
	w.put("n", "3", "inf")
	s := sees(t, nil, "", "d")
	none := valid.NewLooks(w.Base, 1, valid.NewSees(), 10)
	one := valid.NewLooks(w.Base, 1, s, 10)
	s.Read(1)
	two := valid.NewLooks(w.Base, 1, s, 10)
	s.Look("k", "")
	three := valid.NewLooks(w.Base, 1, s, 10)
	w.finish("P9.4: a version that is noted later", one, heads+"cccc", api.ErrPhantom)
	w.finish("P9.4: a range that is noted later", two, heads+"cc", api.OK)
	w.finish("P9.4: a range that is noted by then", three, heads+"cc"+heads+"c"+"cccc", api.ErrPhantom)
	w.refused("P9.4: nothing is noted", none, api.OK)
	holds(t, "P9.4: the set is as it was", s, []int{1}, valid.Range{High: "d"}, valid.Range{Low: "k"})
}
