package version_test

import (
	"fmt"
	"strings"
	"testing"

	"strata/api"
	"strata/bits"
)

func TestMakeStepByStep(t *testing.T) {
	w := newWorld(t, 8, 1, 4, 0)
	w.open(4)
	m := w.Make(3, "a", "x")
	want(t, "P7.4: ahead of its first step", []any{m.Code(), m.Slot(), w.Accesses() - 4}, []any{api.OK, 0, 0})
	w.play("P7.4: Make: Alloc", m, "c")
	want(t, "P7.4: Slot, from the Alloc on", []any{m.Slot(), m.Code()}, []any{1, api.OK})
	entry, _ := w.Cells.Payload(1)
	words, _ := w.Cells.Peek(1)
	want(t, "P7.4: the version", []any{entry, words}, []any{api.Entry{Name: "a", Data: "x", Tall: 1}, []uint64{word(3), api.Infinity, 0, 0, 0, 0, 0, 0}})
	w.play("P7.4: Hash.Insert", m, "chch")
	list, _ := w.Hash.List(0)
	order, _ := w.Order.List(0)
	want(t, "P7.4: linked by the hash index alone", []any{list, order}, []any{[]int{1}, []int{}})
	w.finish("P7.4: Order.Insert", m, "coooo"+"co", api.OK, 1)
	order, _ = w.Order.List(0)
	want(t, "P7.4: linked by both", order, []int{1})
	w.holds("P7.4", 1, word(3), api.Infinity)
}

func TestMakeOfEveryHeight(t *testing.T) {
	w := newWorld(t, 8, 3, 1, 0)
	for i, key := range []string{"a", "b", "q", "zz"} {
		m := w.Make(1, key, "")
		w.run(m)
		entry, _ := w.Cells.Payload(m.Slot())
		want(t, "P7.4: the height", []any{m.Code(), entry.Tall, bits.Height(key, 4)}, []any{api.OK, i + 1, i + 1})
		for level := range 4 {
			list, _ := w.Order.List(level)
			want(t, fmt.Sprintf("P7.4: %q at level %d", key, level), len(list), max(0, i+1-level))
		}
		list, _ := w.Hash.List(int(bits.Hash(key) % 3))
		want(t, "P7.4: its bucket's first", list[0], m.Slot())
	}
}

func TestLoad(t *testing.T) {
	for _, stamp := range stamps() {
		w := newWorld(t, 2, 1, 1, 5)
		if stamp > api.MaxTime {
			w.refused(fmt.Sprintf("P7.4: Load(%d)", stamp), w.Load(stamp, "k", "d"), api.ErrRange)
			continue
		}
		m := w.Load(stamp, "k", "d")
		w.play("P7.4: Load: Alloc", m, "c")
		want(t, "P7.4: Slot", m.Slot(), 1)
		w.finish(fmt.Sprintf("P7.4: Load(%d)", stamp), m, "chch"+w.orderTrace("k"), api.OK, 1)
		w.holds("P7.4: Load", 1, stamp, api.Infinity)
		entry, _ := w.Cells.Payload(1)
		want(t, "P7.4: Load: the version", entry, api.Entry{Name: "k", Data: "d", Tall: bits.Height("k", 4)})
	}
}

// orderTrace tells the accesses of a ladder's first Insert.
func (w *world) orderTrace(key string) string {
	return "coooo" + "co" + strings.Repeat("cco", bits.Height(key, 4)-1)
}

func TestMakeAndLoadAreRefused(t *testing.T) {
	w := newWorld(t, 4, 2, 3, 0)
	w.open(1)
	long, fits := strings.Repeat("k", api.MaxKey+1), strings.Repeat("k", api.MaxKey)
	heavy, bears := strings.Repeat("d", api.MaxData+1), strings.Repeat("d", api.MaxData)
	for _, id := range strange() {
		for _, c := range []struct {
			key, data string
			e         api.Errno
		}{{"", "", api.ErrKey}, {"", "x", api.ErrKey}, {long, "", api.ErrKey}, {"k", heavy, api.ErrKey}, {long, heavy, api.ErrKey}, {fits, bears, api.OK}} {
			right := c.e
			if id < 1 || id > 3 {
				right = api.ErrTx
			}
			if right != api.OK {
				w.refused(fmt.Sprintf("P7.4: Make(%d) of %d and %d bytes", id, len(c.key), len(c.data)), w.Make(id, c.key, c.data), right)
			}
		}
	}
	for _, stamp := range stamps() {
		right := api.ErrKey
		if stamp > api.MaxTime {
			right = api.ErrRange
		}
		for _, c := range [][2]string{{"", ""}, {long, ""}, {"k", heavy}} {
			w.refused(fmt.Sprintf("P7.4: Load(%d) of %d and %d bytes", stamp, len(c[0]), len(c[1])), w.Load(stamp, c[0], c[1]), right)
		}
	}
	w.finish("P7.4: the longest that may be", w.Make(2, fits, bears), "cchch"+w.orderTrace(fits), api.OK, 1)
	entry, _ := w.Cells.Payload(1)
	want(t, "P7.4: the version", entry, api.Entry{Name: fits, Data: bears, Tall: bits.Height(fits, 4)})
	w.finish("P7.4: of a number that is not in use, one byte, no data", w.Make(3, "\x00", ""), w.traceElsewhere(3, "\x00"), api.OK, 2)
}

// traceElsewhere tells the accesses of a Make in another base with the same keys in it.
func (w *world) traceElsewhere(id int, key string) string {
	other := newWorld(w.t, 4, 2, 3, 0)
	for _, e := range w.Cells.All() {
		other.run(other.Make(1, e.Name, ""))
	}
	return other.run(other.Make(id, key, ""))
}

func TestMakeInAFullArena(t *testing.T) {
	w := newWorld(t, 2, 1, 1, 0)
	w.put("a", 1, 2)
	w.put("b", 1, 2)
	w.finish("P7.4: Make, full", w.Make(1, "k", ""), "c", api.ErrFull, 0)
	w.finish("P7.4: Load, full", w.Load(7, "k", ""), "c", api.ErrFull, 0)
	w.refused("P7.4: what is wrong comes first", w.Make(1, "", ""), api.ErrKey)
	list, _ := w.Hash.List(0)
	want(t, "P7.4: nothing is linked", list, []int{2, 1})
}

// Two of one bucket, by turns: the one that comes too late swaps the head again.
func TestMakesBetweenOneAnother(t *testing.T) {
	w := newWorld(t, 4, 1, 2, 0)
	one, two := w.Make(1, "a", "x"), w.Make(2, "a", "y")
	w.play("P7.4", one, "cchc")
	w.play("P7.4", two, "cchc")
	w.play("P7.4", two, "h")
	w.play("P7.4: swaps in vain, and once more", one, "hhch")
	list, _ := w.Hash.List(0)
	want(t, "P7.4: the bucket", list, []int{1, 2})
	w.play("P7.4: searches", one, "coooo")
	w.finish("P7.4", two, "coooo"+"co", api.OK, 2)
	w.finish("P7.4: comes too late", one, "co"+"oooo"+"c"+"co", api.OK, 1)
	order, _ := w.Order.List(0)
	want(t, "P7.4: the ladder", order, []int{1, 2})
}

// What an access or a part answers is the machine's end, in that step.
func TestMakeOfASlotThatIsFreed(t *testing.T) {
	for _, c := range []struct{ before, last string }{{"c", "x"}, {"cch", "x"}, {"cchch", "x"}, {"cchchc", ""}, {"cchchcoooo", "x"}} {
		w := newWorld(t, 4, 1, 1, 0)
		m := w.Make(1, "a", "")
		w.play("P7.4", m, c.before)
		w.Cells.Free(1)
		if c.last == "" { // the heads are the ladder's own: only the next access meets the slot
			w.play("P7.4", m, "oooo")
			c.last = "x"
		}
		w.finish("P7.4: freed behind "+c.before, m, c.last, api.ErrSlot, 1)
	}
	w := newWorld(t, 4, 1, 1, 0)
	m := w.Make(1, "a", "")
	w.play("P7.4", m, "c")
	w.run(w.Hash.Insert(0, 1))
	w.finish("P7.4: linked by another", m, "c", api.ErrLinked, 1)
	m = w.Make(1, "a", "")
	w.play("P7.4", m, "cchch")
	w.run(w.Order.Insert(2))
	w.finish("P7.4: put in by another", m, "c", api.ErrTwice, 2)
	m = w.Make(1, "a", "")
	w.play("P7.4", m, "c")
	w.Cells.Store(m.Slot(), api.CellHash, 9)
	w.finish("P7.4: a link that is not 0", m, "c", api.ErrLinked, 3)
}
