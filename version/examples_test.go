package version_test

import (
	"testing"

	"strata/api"
	"strata/version"
)

// The chapter's examples, one behind the other.
func TestExamples(t *testing.T) {
	w := newWorld(t, 8, 1, 4, 0)
	one, at1 := w.begin()
	want(t, "T1", []any{one, at1}, []any{1, 1})
	w.finish("Make(1, a, x)", w.Make(1, "a", "x"), "c"+"chch"+"cooooco", api.OK, 1)
	w.holds("Make", 1, word(1), api.Infinity)

	w.finish("example 1", w.See(1, 1, 1), "cc", api.OK, true)

	two, at2 := w.begin()
	want(t, "T2", []any{two, at2}, []any{2, 2})
	w.finish("example 2: See", w.See(2, 1, 2), "ct", api.OK, false)
	w.finish("example 2: Bar", w.Bar(2, 1, 2), "ct", api.OK, api.BarBusy)

	w.move(1, api.TxPreparing)
	w.finish("example 3: See", w.See(2, 1, 2), "ctttt", api.OK, false)
	_, end, _ := w.Tx.Look(1)
	want(t, "example 3: the end of T1", end, 3)
	draw := w.Tx.Draw(1)
	want(t, "example 3: T1's own Draw", []any{draw.Step(), draw.End()}, []any{true, 3})

	three, at3 := w.begin()
	want(t, "T3", []any{three, at3}, []any{3, 4})
	w.finish("example 4: See", w.See(3, 1, 4), "cttcttt", api.OK, true)
	w.waits("example 4", 3, 1, 0)
	w.finish("example 4: See of nobody", w.See(0, 1, 4), "ctt", api.OK, false)

	w.move(1, api.TxCommitted)
	w.run(w.Tx.Close(1))
	w.waits("example 5", 3, 0, 0)
	w.finish("example 5: Commit", w.Commit(1, []int{1}, []int{}, 3), "c", api.OK, nil)
	w.holds("example 5", 1, 3, api.Infinity)
	w.finish("example 5: See", w.See(2, 1, 2), "c", api.OK, false)
	w.finish("example 5: See of nobody", w.See(0, 1, 4), "cc", api.OK, true)

	w.finish("example 6: Lock", w.Lock(3, 1), "cc", api.OK, nil)
	w.finish("example 6: T2's Lock", w.Lock(2, 1), "ct", api.ErrConflict, nil)
	w.finish("example 6: Undo", w.Undo(3, nil, []int{1}), "c", api.OK, nil)
	w.holds("example 6", 1, 3, api.Infinity)

	four, at4 := w.begin()
	want(t, "T4", []any{four, at4}, []any{4, 5})
	m := w.Make(4, "a", "y")
	w.run(m)
	want(t, "example 7: Make", m.Slot(), 2)
	w.finish("example 7: Free", w.Free(4, 2, 5), "cccc", api.ErrDuplicate, 1)

	want(t, "example 8", []int{version.JudgeEnd(false, api.TxPreparing, 7, 9), version.JudgeBegin(false, api.TxPreparing, 0, 9)}, []int{api.SayUnless, api.SayAsk})
	want(t, "P7.15: Misses", w.Misses(), 0)
}
