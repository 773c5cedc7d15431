package version_test

import (
	"fmt"
	"slices"
	"testing"

	"strata/api"
)

// lots lays out versions 1 to n with the words of transaction 1.
func lots(t *testing.T, n int) *world {
	w := newWorld(t, n+1, 1, 3, 60)
	for range n {
		w.put("k", word(1), word(1))
	}
	return w
}

func TestCommitStepByStep(t *testing.T) {
	w := lots(t, 4)
	m := w.Commit(1, []int{3, 1}, []int{2, 1}, 70)
	for i, right := range []struct {
		slot       int
		begin, end uint64
		done       bool
	}{{3, 70, word(1), false}, {1, 70, word(1), false}, {2, word(1), 70, false}, {1, 70, 70, true}} {
		before := dump(w.Base)
		made, done := w.step(m)
		want(t, fmt.Sprintf("P7.10: Commit: step %d", i+1), []any{made, done, m.Code()}, []any{"c", right.done, api.OK})
		w.holds("P7.10: Commit", right.slot, right.begin, right.end)
		if dump(w.Base) == before {
			t.Errorf("P7.10: step %d has changed nothing", i+1)
		}
	}
	w.rests("P7.10: Commit", m)
	w.holds("P7.10: Commit", 4, word(1), word(1))
	w.holds("P7.10: Commit", 3, 70, word(1))
	w.holds("P7.10: Commit", 2, word(1), 70)
}

func TestUndoStepByStep(t *testing.T) {
	w := lots(t, 5)
	w.write(4, 5, word(2))
	w.write(5, 5, 9)
	m := w.Undo(1, []int{3, 1}, []int{2, 4, 5, 1})
	w.play("P7.10: Undo", m, "ccccc")
	w.holds("P7.10: Undo: not at its turn yet", 1, api.Infinity, word(1))
	w.finish("P7.10: Undo", m, "c", api.OK, nil)
	w.holds("P7.10: Undo: made, and taken", 1, api.Infinity, api.Infinity)
	w.holds("P7.10: Undo: taken", 2, word(1), api.Infinity)
	w.holds("P7.10: Undo: made", 3, api.Infinity, word(1))
	w.holds("P7.10: Undo: another one's by now", 4, 5, word(2))
	w.holds("P7.10: Undo: a timestamp by now", 5, 5, 9)
}

// Commit stores, whatever is there; the same slot may come again.
func TestCommitStores(t *testing.T) {
	w := lots(t, 2)
	w.write(1, api.Infinity, 9)
	w.write(2, 1<<62, 1<<62)
	w.finish("P7.10: Commit", w.Commit(2, []int{1, 2, 1}, []int{1, 2, 2}, 0), "cccccc", api.OK, nil)
	w.holds("P7.10: Commit", 1, 0, 0)
	w.holds("P7.10: Commit", 2, 0, 0)
	w.finish("P7.10: Commit, the last timestamp", w.Commit(2, []int{1}, nil, api.MaxTime), "c", api.OK, nil)
	w.holds("P7.10: Commit, the last timestamp", 1, api.MaxTime, 0)
	w.finish("P7.10: Undo", w.Undo(2, []int{2, 2}, nil), "cc", api.OK, nil)
	w.holds("P7.10: Undo", 2, api.Infinity, 0)
}

func TestFixOfNothing(t *testing.T) {
	w := lots(t, 1)
	for name, lists := range map[string][2][]int{"nil": {nil, nil}, "empty": {{}, {}}, "mixed": {nil, {}}} {
		w.refused("P7.10: Commit of nothing, "+name, w.Commit(3, lists[0], lists[1], 7), api.OK)
		w.refused("P7.10: Undo of nothing, "+name, w.Undo(3, lists[0], lists[1]), api.OK)
	}
}

func TestFixIsRefused(t *testing.T) {
	w := lots(t, 2)
	for _, list := range [][]int{nil, {1}, {9}} {
		for _, id := range strange() {
			known := id >= 1 && id <= 3
			for _, stamp := range stamps() {
				switch {
				case !known:
					w.refused(fmt.Sprintf("P7.10: Commit(%d, %d)", id, stamp), w.Commit(id, list, list, stamp), api.ErrTx)
				case stamp > api.MaxTime:
					w.refused(fmt.Sprintf("P7.10: Commit(%d, %d)", id, stamp), w.Commit(id, list, list, stamp), api.ErrRange)
				}
			}
			if !known {
				w.refused(fmt.Sprintf("P7.10: Undo(%d)", id), w.Undo(id, list, list), api.ErrTx)
			}
		}
	}
	for _, slot := range strange() {
		if slot == 1 || slot == 2 {
			continue
		}
		w.refused("P7.10: Commit, made", w.Commit(1, []int{slot, 1}, []int{1}, 7), api.ErrSlot)
		w.refused("P7.10: Commit, taken", w.Commit(1, nil, []int{slot, 1}, 7), api.ErrSlot)
		w.refused("P7.10: Undo, made", w.Undo(1, []int{slot, 1}, []int{1}), api.ErrSlot)
		w.refused("P7.10: Undo, taken", w.Undo(1, nil, []int{slot, 1}), api.ErrSlot)
	}
	w.finish("P7.10: a slot that is not there, in the midst", w.Commit(1, []int{1, 7, 2}, []int{1}, 9), "cx", api.ErrSlot, nil)
	w.holds("P7.10", 1, 9, word(1))
	w.holds("P7.10", 2, word(1), word(1))
	w.finish("P7.10: Undo of a slot that is not there, in the midst", w.Undo(1, []int{1}, []int{1, 7, 2}), "ccx", api.ErrSlot, nil)
	w.holds("P7.10", 1, api.Infinity, api.Infinity)
	w.holds("P7.10", 2, word(1), word(1))
}

// The lists are the caller's: neither changed, nor kept.
func TestFixKeepsNoList(t *testing.T) {
	for _, undo := range []bool{false, true} {
		w := lots(t, 4)
		lists := [2][]int{append(make([]int, 0, 9), 1, 2), append(make([]int, 0, 9), 3, 4)}
		copies := [2][]int{slices.Clone(lists[0]), slices.Clone(lists[1])}
		m := w.Commit(1, lists[0], lists[1], 7)
		if undo {
			m = w.Undo(1, lists[0], lists[1])
		}
		w.play("P7.10", m, "c")
		want(t, "P7.10: the lists", lists, copies)
		for i := range lists {
			for k := range lists[i][:9] {
				lists[i][:9][k] = 99
			}
		}
		w.finish("P7.10: the lists are written over meanwhile", m, "ccc", api.OK, nil)
		for i := range lists {
			want(t, "P7.10: the lists, and the room behind them", lists[i][:9], []int{99, 99, 99, 99, 99, 99, 99, 99, 99})
		}
		now := uint64(7)
		if undo {
			now = api.Infinity
		}
		for slot := 1; slot <= 2; slot++ {
			w.holds("P7.10", slot, now, word(1))
			w.holds("P7.10", slot+2, word(1), now)
		}
	}
	w := lots(t, 1)
	list := []int{1}
	m := w.Commit(1, list, nil, 7)
	list[0] = 9
	w.finish("P7.10: written over ahead of the first step", m, "c", api.OK, nil)
}
