package version_test

import (
	"fmt"
	"testing"

	"strata/api"
)

func TestFree(t *testing.T) {
	for _, c := range []struct {
		name     string
		old      [][2]string // the older versions' words, the oldest first
		accesses string      // behind the link of the new one
		e        api.Errno
		slot     int
	}{
		{"none", nil, "", api.OK, 0},
		{"ended", [][2]string{{"5", "9"}}, "ccc", api.OK, 0},
		{"seen", [][2]string{{"5", "inf"}}, "ccc", api.ErrDuplicate, 1},
		{"seen, made by itself", [][2]string{{"#1", "inf"}}, "ccc", api.ErrDuplicate, 1},
		{"taken by itself", [][2]string{{"5", "#1"}}, "ccc", api.OK, 0},
		{"made and taken by itself", [][2]string{{"#1", "#1"}}, "ccc", api.OK, 0},
		{"given up", [][2]string{{"inf", "inf"}}, "cc", api.OK, 0},
		{"begins later", [][2]string{{"51", "inf"}}, "cc", api.ErrConflict, 0},
		{"another makes it", [][2]string{{"#2", "inf"}}, "cct", api.ErrConflict, 0},
		{"another takes it", [][2]string{{"5", "#2"}}, "ccct", api.ErrDuplicate, 1},
		{"a bad word", [][2]string{{"bad", "inf"}}, "cc", api.ErrRange, 0},
		{"no such transaction", [][2]string{{"5", "#9"}}, "ccct", api.ErrTx, 0},
		{"ended, and ended", [][2]string{{"5", "9"}, {"9", "20"}}, "ccc" + "ccc", api.OK, 0},
		{"seen, behind one that is given up", [][2]string{{"5", "inf"}, {"inf", "inf"}}, "cc" + "ccc", api.ErrDuplicate, 1},
		{"the first that is in the way", [][2]string{{"5", "inf"}, {"51", "inf"}}, "cc", api.ErrConflict, 0},
		{"the first that is in the way, otherwise", [][2]string{{"51", "inf"}, {"5", "inf"}}, "ccc", api.ErrDuplicate, 2},
	} {
		w := newWorld(t, 8, 1, 3, 60)
		w.open(2)
		for _, words := range c.old {
			w.put("k", wordOf(words[0]), wordOf(words[1]))
		}
		fresh := w.put("k", word(1), api.Infinity)
		before := dump(w.Base)
		w.finish("P7.9: "+c.name, w.Free(1, fresh, 50), "c"+c.accesses, c.e, c.slot)
		if dump(w.Base) != before {
			t.Errorf("P7.9: %s: it has changed something", c.name)
		}
	}
}

// Others' keys, and versions ahead of the new one, are not looked at.
func TestFreeLooksBehindTheNewOne(t *testing.T) {
	w := newWorld(t, 8, 1, 2, 60)
	w.put("other", 1<<62, 1<<62)
	w.put("k", 5, 9)
	w.put("kk", 1<<62, 1<<62)
	fresh := w.put("k", word(1), api.Infinity)
	w.put("k", 5, api.Infinity)
	w.put("k", 51, api.Infinity)
	w.finish("P7.9", w.Free(1, fresh, 50), "c"+"c"+"ccc"+"c", api.OK, 0)
	w.finish("P7.9: by nobody", w.Free(0, fresh, 50), "c"+"c"+"ccc"+"c", api.OK, 0)
	w.finish("P7.9: what the new one's words are makes no difference", w.Free(1, 2, 50), "cc", api.OK, 0)
	w.finish("P7.9: the last of the bucket", w.Free(1, 1, 50), "c", api.OK, 0)
}

func TestFreeOfNobody(t *testing.T) {
	w := newWorld(t, 8, 1, 2, 20)
	w.open(1)
	w.move(1, api.TxPreparing)
	w.put("k", word(1), api.Infinity)
	fresh := w.put("k", api.Infinity, api.Infinity)
	w.finish("P7.9: nobody, and one that prepares", w.Free(0, fresh, 50), "cc"+"ctttt", api.ErrConflict, 0)
	w.write(1, 5, word(1))
	w.finish("P7.9: nobody, and one that is taken", w.Free(0, fresh, 50), "cc"+"cctt", api.OK, 0)
}

// On another's word: it depends, and is told so later.
func TestFreeDepends(t *testing.T) {
	w, slot := stage(t, 20, "P20", "inf")
	fresh := w.put("k", word(reader), api.Infinity)
	m := w.Free(reader, fresh, 50)
	w.play("P7.9: trusts the maker", m, "cc"+"cttc"+"tt")
	w.finish("P7.9: it is there on the maker's word", m, "t", api.ErrDuplicate, slot)
	w.waits("P7.9", reader, 1, 0)

	w, _ = stage(t, 20, "5", "P20")
	fresh = w.put("k", word(reader), api.Infinity)
	w.finish("P7.9: it is gone on the taker's word", w.Free(reader, fresh, 50), "cc"+"cctt"+"ttt", api.OK, 0)
	w.waits("P7.9", reader, 1, 0)

	w, _ = stage(t, 20, "5", "P20")
	w.open(9)
	w.fill(taker, 4, 11)
	fresh = w.put("k", word(reader), api.Infinity)
	w.finish("P7.9: all places are taken", w.Free(reader, fresh, 50), "cc"+"cctt"+"tttttttttt", api.ErrDeps, 0)
}

func TestFreeIsRefused(t *testing.T) {
	w := newWorld(t, 4, 1, 3, 0)
	linked := w.put("k", 1, api.Infinity)
	w.Cells.Alloc(api.Entry{Name: "k", Tall: 1}, 1, api.Infinity)
	for _, id := range strange() {
		for _, s := range strange() {
			right := api.ErrSlot
			switch {
			case id < 0 || id > 3:
				right = api.ErrTx
			case s == linked:
				w.finish("P7.9: a number that is not in use", w.Free(id, s, 1), "c", api.OK, 0)
				continue
			case s == linked+1:
				w.finish("P7.9: a version that is not linked", w.Free(id, s, 1), "c", api.ErrUnlinked, 0)
				continue
			}
			w.refused(fmt.Sprintf("P7.9: Free(%d, %d)", id, s), w.Free(id, s, 1), right)
		}
	}
}

func TestFreeMeetsErrors(t *testing.T) {
	lay := func() (*world, int) {
		w := newWorld(t, 4, 1, 1, 0)
		w.put("k", 1, 2)
		w.put("k", 2, 3)
		return w, w.put("k", word(1), api.Infinity)
	}
	w, fresh := lay()
	w.Cells.Free(1)
	w.finish("P7.9: a slot that is not in use", w.Free(1, fresh, 5), "c"+"ccc"+"x", api.ErrSlot, 0)
	w, fresh = lay()
	w.Cells.Store(1, api.CellHash, 0)
	w.finish("P7.9: a link that was never written", w.Free(1, fresh, 5), "c"+"ccc"+"c", api.ErrUnlinked, 0)
	w, fresh = lay()
	w.Cells.Store(1, api.CellHash, 2*(api.MaxSlots+77))
	w.finish("P7.9: any end is one, behind a slot", w.Free(1, fresh, 5), "c"+"ccc"+"ccc", api.OK, 0)
	w, fresh = lay()
	m := w.Free(1, fresh, 5)
	w.Cells.Free(fresh)
	w.finish("P7.9: freed ahead of its first step", m, "x", api.ErrSlot, 0)
	w, fresh = lay()
	m = w.Free(1, fresh, 5)
	w.play("P7.9", m, "cc")
	w.Cells.Free(2)
	w.finish("P7.9: freed where it stands", m, "x", api.ErrSlot, 0)
}

// Of two that insert one key at the same time, the one whose version stands ahead meets the other's.
func TestFreesBetweenOneAnother(t *testing.T) {
	for range 2 {
		w := newWorld(t, 4, 1, 2, 60)
		w.open(2)
		one, two := w.Make(1, "k", ""), w.Make(2, "k", "")
		w.play("P7.4", one, "cchc")
		w.run(two)
		w.run(one)
		w.finish("P7.9: the one behind", w.Free(2, two.Slot(), 50), "c", api.OK, 0)
		w.finish("P7.9: the one ahead", w.Free(1, one.Slot(), 50), "cc"+"ct", api.ErrConflict, 0)
	}
}
