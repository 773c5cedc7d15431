package version_test

import (
	"fmt"
	"testing"

	"strata/api"
)

func TestFind(t *testing.T) {
	w := newWorld(t, 12, 1, 4, 60)
	w.open(2)
	w.put("a", 10, 20)           // 1
	w.put("b", 10, api.Infinity) // 2
	w.put("a", 20, 30)           // 3
	w.put("a", 30, word(1))      // 4
	w.put("a", word(1), api.Infinity)
	w.put("c", api.Infinity, api.Infinity)
	// along the bucket: 6 (c), 5, 4, 3 (a), 2 (b), 1 (a)
	for _, c := range []struct {
		id       int
		key      string
		at       uint64
		accesses string
		slot     int
	}{
		{1, "a", 50, "h" + "c" + "ccc", 5},
		{2, "a", 50, "h" + "c" + "cct" + "ccct", 4},
		{0, "a", 50, "h" + "c" + "cct" + "ccct", 4},
		{2, "a", 30, "h" + "c" + "cct" + "ccct", 4},
		{2, "a", 29, "h" + "c" + "cct" + "cc" + "ccc", 3},
		{0, "a", 20, "h" + "c" + "cct" + "cc" + "ccc", 3},
		{2, "a", 19, "h" + "c" + "cct" + "cc" + "cc" + "c" + "ccc", 1},
		{2, "a", 9, "h" + "c" + "cct" + "cc" + "cc" + "c" + "cc", 0},
		{2, "b", 9, "h" + "cccc" + "cc" + "c", 0},
		{2, "b", 10, "h" + "cccc" + "ccc", 2},
		{2, "c", 1<<64 - 1, "h" + "cc" + "ccccc", 0},
		{2, "", 50, "h" + "cccccc", 0},
		{0, "none", 50, "h" + "cccccc", 0},
		{3, string(make([]byte, 1000)), 50, "h" + "cccccc", 0},
	} {
		w.finish(fmt.Sprintf("P7.8: Find(%d, %.5q, %d)", c.id, c.key, c.at), w.Find(c.id, c.key, c.at), c.accesses, api.OK, c.slot)
	}
}

func TestFindInAnEmptyBucket(t *testing.T) {
	w := newWorld(t, 2, 4, 1, 0)
	for _, key := range []string{"", "a", "b", "k", "zz"} {
		w.finish("P7.8: an empty bucket", w.Find(0, key, 5), "h", api.OK, 0)
	}
}

// A key is looked for in its own bucket, among others' versions.
func TestFindInItsBucket(t *testing.T) {
	w := newWorld(t, 64, 7, 1, 0)
	slots := map[string]int{}
	for i := range 40 {
		key := fmt.Sprint("key", i)
		slots[key] = w.put(key, 5, api.Infinity)
	}
	for key, slot := range slots {
		list, _ := w.Hash.List(w.Bucket(key))
		accesses := "h"
		for _, s := range list {
			accesses += "c"
			if s == slot {
				accesses += "cc"
				break
			}
		}
		w.finish("P7.8: Find of "+key, w.Find(1, key, 5), accesses, api.OK, slot)
		w.finish("P7.8: too early for "+key, w.Find(1, key, 4), w.missTrace(list, slot), api.OK, 0)
	}
}

// missTrace tells the accesses along a bucket, of which one version is looked at by its begin word alone.
func (w *world) missTrace(list []int, slot int) string {
	text := "h"
	for _, s := range list {
		text += "c"
		if s == slot {
			text += "c"
		}
	}
	return text
}

func TestFindIsRefused(t *testing.T) {
	w := newWorld(t, 2, 1, 3, 0)
	w.put("k", 1, api.Infinity)
	for _, id := range strange() {
		if id < 0 || id > 3 {
			w.refused(fmt.Sprintf("P7.8: Find(%d)", id), w.Find(id, "k", 5), api.ErrTx)
			w.refused(fmt.Sprintf("P7.8: Find(%d)", id), w.Find(id, "", 5), api.ErrTx)
			continue
		}
		w.finish("P7.8: Find", w.Find(id, "k", 5), "hccc", api.OK, 1)
	}
}

// What the walk or a look answers is the end.
func TestFindMeetsErrors(t *testing.T) {
	lay := func() *world {
		w := newWorld(t, 4, 2, 1, 0)
		w.open(1)
		for _, key := range []string{"a", "a", "a"} {
			w.put(key, 9, api.Infinity)
		}
		return w
	}
	link := func(slot int) uint64 { return uint64(slot) * 2 }
	bucket := lay().Bucket("a")
	stray := link(api.MaxSlots + 1 + 1 - bucket)

	w := lay()
	w.Cells.Store(1, api.CellHash, stray)
	w.finish("P7.8: the walk strays, and stands at the last slot", w.Find(1, "a", 5), "h"+"cc"+"cc"+"c", api.ErrStray, 0)
	w.write(1, 3, api.Infinity)
	w.finish("P7.8: which is not looked at, though it would be seen", w.Find(1, "a", 5), "h"+"cc"+"cc"+"c", api.ErrStray, 0)
	w.finish("P7.8: nor is its key", w.Find(1, "b", 5), map[bool]string{true: "h" + "ccc", false: "h"}[w.Bucket("b") == bucket], map[bool]api.Errno{true: api.ErrStray}[w.Bucket("b") == bucket], 0)

	w = lay()
	w.Cells.Store(2, api.CellHash, 0)
	w.finish("P7.8: a link that was never written", w.Find(1, "a", 5), "h"+"cc"+"c", api.ErrUnlinked, 0)

	w = lay()
	w.Cells.Free(2)
	w.finish("P7.8: a slot that is not in use", w.Find(1, "a", 5), "h"+"cc"+"x", api.ErrSlot, 0)

	w = lay()
	w.write(2, 1<<62, api.Infinity)
	w.finish("P7.8: a bad word", w.Find(1, "a", 5), "h"+"cc"+"cc", api.ErrRange, 0)

	w = lay()
	w.write(3, word(9), api.Infinity)
	w.finish("P7.8: a transaction that is not there", w.Find(1, "a", 5), "h"+"cct", api.ErrTx, 0)

	w = lay()
	m := w.Find(1, "a", 5)
	w.play("P7.8", m, "hc")
	w.Cells.Free(3)
	w.finish("P7.8: freed where it stands", m, "x", api.ErrSlot, 0)
}

// Steps of others come between.
func TestFindWhileOthersGoOn(t *testing.T) {
	w := newWorld(t, 6, 1, 3, 20)
	w.open(2)
	w.put("a", 1, 9)
	w.put("a", 9, api.Infinity)
	m := w.Find(1, "a", 30)
	w.play("P7.8: at 2, not looked at", m, "hc")
	w.run(w.Hash.Remove(0, 1))
	w.write(2, 9, 30)
	w.put("a", 30, api.Infinity) // ahead of where it stands
	w.finish("P7.8: 1 is pending, and marked; no other comes", m, "cc"+"c", api.OK, 0)

	w = newWorld(t, 6, 1, 3, 20)
	w.open(2)
	w.put("a", 1, 9)
	w.put("b", 1, 9)
	w.run(w.Hash.Remove(0, 2))
	w.finish("P7.8: one that is unlinked", w.Find(1, "b", 5), "hc", api.OK, 0)
	m = w.Find(1, "a", 5)
	w.play("P7.8", m, "h")
	marking := w.Hash.Remove(0, 1)
	marking.Step()
	marking.Step()
	w.finish("P7.8: marked ahead of being met", m, "c", api.OK, 0)

	w = newWorld(t, 6, 1, 3, 20)
	w.open(2)
	w.put("a", 1, 9)
	w.put("a", word(2), api.Infinity)
	w.move(2, api.TxPreparing)
	m = w.Find(1, "a", 30)
	w.play("P7.8: draws and depends", m, "hc"+"ctttt"+"c"+"tt")
	w.finish("P7.8: what is seen on another's word", m, "t", api.OK, 2)
	w.waits("P7.8", 1, 1, 0)
}
