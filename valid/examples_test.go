package valid_test

import (
	"testing"

	"strata/api"
	"strata/valid"
)

// skewed is the chapter's example up to the first end: two transactions that each read what the other one writes.
func skewed(t *testing.T) *world {
	t.Helper()
	w := newWorld(t, 8, 4, 2)
	w.alone(w.Load(1, "a", "x"))
	w.alone(w.Load(2, "b", "y"))
	for n := 1; n <= 2; n++ {
		id, begin := w.begin()
		want(t, "the example: begin", []any{id, begin}, []any{n, uint64(n + 2)})
	}
	w.alone(w.Lock(1, 2))
	w.alone(w.Make(1, "b", "y1"))
	w.alone(w.Lock(2, 1))
	w.alone(w.Make(2, "a", "x2"))
	want(t, "the example: end", w.draw(1), 5)
	row, _ := w.Order.List(0)
	want(t, "the example: the ladder", row, []int{1, 4, 2, 3})
	return w
}

func TestExample(t *testing.T) {
	w := skewed(t)
	s := sees(t, []int{1, 2}, "a", "c")
	words := w.words()
	first := valid.NewCheck(w.Base, 1, api.Serializable, s, 5)
	w.play("the example: slot 1", first, "c"+"cct")
	w.play("the example: slot 2", first, "c")
	w.play("the example: the walk down", first, "oooo")
	w.play("the example: slot 1 in the ladder", first, "c")
	w.play("the example: slot 4 in the ladder", first, "c"+"c"+"ct")
	w.play("the example: slot 2 in the ladder", first, "c")
	w.finish("the example: slot 3 in the ladder", first, "c"+"c", api.OK)
	w.waits("the example: the first", 1, 0, 0)

	want(t, "the example: end", w.draw(2), 6)
	second := valid.NewCheck(w.Base, 2, api.Serializable, s, 6)
	w.play("the example: slot 1", second, "c")
	w.finish("the example: slot 2", second, "c"+"cc"+"t"+"t"+"ttt", api.ErrRead)
	w.waits("the example: the second", 2, 1, 0)
	want(t, "P9.6: the words", w.words(), words)

	w = skewed(t)
	w.draw(2)
	w.refused("the example: the first as Snapshot", valid.NewCheck(w.Base, 1, api.Snapshot, s, 5), api.OK)
	w.refused("the example: the second as Snapshot", valid.NewCheck(w.Base, 2, api.Snapshot, s, 6), api.OK)
	w.finish("the example: the second as RepeatableRead", valid.NewCheck(w.Base, 2, api.RepeatableRead, s, 6), "c"+"c"+"cc"+"t"+"t"+"ttt", api.ErrRead)
}
