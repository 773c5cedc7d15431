package version_test

import (
	"fmt"
	"testing"

	"strata/api"
)

func TestLock(t *testing.T) {
	for _, c := range []struct {
		end, accesses string
		e             api.Errno
		now           string
	}{
		{"inf", "cc", api.OK, "#1"},
		{"#1", "c", api.OK, "#1"},
		{"0", "c", api.ErrConflict, "0"},
		{"50", "c", api.ErrConflict, "50"},
		{"4611686018427387903", "c", api.ErrConflict, "4611686018427387903"},
		{"A", "ct", api.ErrConflict, "#3"},
		{"P", "ct", api.ErrConflict, "#3"},
		{"P20", "ct", api.ErrConflict, "#3"},
		{"C20", "ct", api.ErrConflict, "#3"},
		{"X", "ctc", api.OK, "#1"},
		{"X20", "ctc", api.OK, "#1"},
		{"bad", "c", api.ErrRange, "bad"},
		{"#4", "ctx", api.ErrTx, "#4"},
		{"#13", "ct", api.ErrTx, "#13"},
		{"#0", "ct", api.ErrTx, "#0"},
		{"#4611686018427387903", "ct", api.ErrTx, "#4611686018427387903"},
	} {
		for _, begin := range []string{"5", "inf", "bad", "#1", "A"} { // the begin word is not looked at
			w, slot := stage(t, 30, begin, c.end)
			old, _, _ := w.Words(slot)
			w.finish("P7.7: Lock of "+c.end, w.Lock(reader, slot), c.accesses, c.e, nil)
			w.holds("P7.7: Lock of "+c.end, slot, old, wordOf(c.now))
		}
	}
	w := newWorld(t, 2, 1, 1, 0)
	slot := w.put("k", 1, 2)
	for _, bad := range badWords() {
		w.write(slot, 1, bad)
		w.finish("P7.7: a bad word", w.Lock(1, slot), "c", api.ErrRange, nil)
	}
}

func TestLockIsRefused(t *testing.T) {
	w := newWorld(t, 2, 1, 3, 0)
	slot := w.put("k", 1, 5)
	for _, id := range strange() {
		for _, s := range strange() {
			right := api.ErrSlot
			switch {
			case id < 1 || id > 3:
				right = api.ErrTx
			case s == slot:
				w.finish("P7.7: a number that is not in use", w.Lock(id, s), "c", api.ErrConflict, nil)
				continue
			}
			w.refused(fmt.Sprintf("P7.7: Lock(%d, %d)", id, s), w.Lock(id, s), right)
		}
	}
	w.write(slot, 1, api.Infinity)
	m := w.Lock(1, slot)
	w.play("P7.7", m, "c")
	w.Cells.Free(slot)
	w.finish("P7.7: freed between", m, "x", api.ErrSlot, nil)
}

func TestLocksBetweenOneAnother(t *testing.T) {
	w, slot := stage(t, 9, "5", "inf")
	one, two := w.Lock(1, slot), w.Lock(2, slot)
	w.play("P7.7", one, "c")
	w.play("P7.7", two, "c")
	w.finish("P7.7: the first that swaps has it", two, "c", api.OK, nil)
	w.play("P7.7: swaps in vain, loads again", one, "cc")
	w.finish("P7.7: the other one is active", one, "t", api.ErrConflict, nil)
	w.holds("P7.7", slot, 5, word(2))

	w, slot = stage(t, 9, "5", "inf")
	one, again := w.Lock(1, slot), w.Lock(1, slot)
	w.play("P7.7", one, "c")
	w.finish("P7.7", again, "cc", api.OK, nil)
	w.finish("P7.7: it has it already", one, "cc", api.OK, nil)

	w, slot = stage(t, 9, "5", "X")
	one, two = w.Lock(1, slot), w.Lock(2, slot)
	w.play("P7.7", one, "ct")
	w.play("P7.7", two, "ct")
	w.finish("P7.7: an aborted one's", one, "c", api.OK, nil)
	w.play("P7.7: swaps in vain, loads again", two, "cc")
	w.finish("P7.7", two, "t", api.ErrConflict, nil)
	w.holds("P7.7", slot, 5, word(1))

	w, slot = stage(t, 9, "5", "X")
	one = w.Lock(1, slot)
	w.play("P7.7", one, "ct")
	w.run(w.Undo(taker, nil, []int{slot}))
	w.play("P7.7: it was let go meanwhile", one, "cc")
	w.finish("P7.7: so it is taken", one, "c", api.OK, nil)
	w.holds("P7.7", slot, 5, word(1))
}

func TestLockOfOneThatHasTerminated(t *testing.T) {
	for _, c := range []struct {
		now, accesses string
		e             api.Errno
	}{{"inf", "cc", api.OK}, {"20", "c", api.ErrConflict}, {"#1", "c", api.OK}, {"#2", "ct", api.ErrConflict}} {
		w, slot := stage(t, 20, "5", "T20")
		m := w.Lock(reader, slot)
		w.play("P7.7: again and again", m, "ctctct")
		w.write(slot, 5, wordOf(c.now))
		w.finish("P7.7: then "+c.now, m, c.accesses, c.e, nil)
	}
}
