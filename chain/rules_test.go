package chain_test

import (
	"testing"

	"strata/api"
	"strata/cells"
	"strata/chain"
)

func TestNoObjects(t *testing.T) {
	refused, _ := chain.New[string](nil, 0, 1)
	for name, x := range map[string]*chain.Index[string]{"nil": nil, "refused": refused} {
		want(t, "Buckets and Accesses, "+name, []int{x.Buckets(), x.Accesses()}, []int{0, 0})
		for _, n := range strange() {
			want(t, "List, "+name, pair(x.List(n)), pair([]int(nil), api.ErrNil))
			want(t, "Held, "+name, pair(x.Held(n)), pair(0, api.ErrNil))
			want(t, "machines, "+name, []any{x.Insert(n, n) == nil, x.Walk(n) == nil, x.Behind(n) == nil, x.Remove(n, n) == nil}, []any{true, true, true, true})
		}
	}
	var i *chain.Insert[string]
	want(t, "a nil Insert", []any{i.Step(), i.Code(), i.Tries()}, []any{true, api.ErrNil, 0})
	var w *chain.Walk[string]
	want(t, "a nil Walk", []any{w.Step(), w.Slot(), w.Ended(), w.Code()}, []any{true, 0, true, api.ErrNil})
	var r *chain.Remove[string]
	want(t, "a nil Remove", []any{r.Step(), r.Code(), r.Marked(), r.Helped()}, []any{true, api.ErrNil, false, 0})
}

func TestNoCallPanics(t *testing.T) {
	w := newWorld(t, 5, 4, 2)
	w.put(0, 1, 2)
	for _, a := range strange() {
		w.index.List(a)
		w.index.Held(a)
		for _, b := range strange() {
			ms := []machine{w.index.Insert(a, b), w.index.Remove(a, b), w.index.Walk(a), w.index.Behind(b)}
			for range 12 {
				for _, m := range ms {
					w.step(m)
					m.Code()
				}
			}
		}
	}
}

// A list that was given out is the caller's: what is written into it, or behind it, is seen by nobody else.
func TestAnswersAreNewMemory(t *testing.T) {
	w := newWorld(t, 6, 5, 1)
	w.put(0, 1, 2, 3, 4, 5)
	kept, _ := w.index.List(0)
	l, _ := w.index.List(0)
	scribble(l)
	want(t, "P0.1: an earlier answer", kept, []int{5, 4, 3, 2, 1})
	w.holds("P0.1: the index", 0, 5, 5, 4, 3, 2, 1)
	short := kept[:2]
	_ = append(short, 77)
	w.holds("P0.1: the index", 0, 5, 5, 4, 3, 2, 1)
}

func TestObjectsHaveNothingInCommon(t *testing.T) {
	a, b := newWorld(t, 3, 3, 1), newWorld(t, 3, 3, 1)
	a.put(0, 1, 2)
	b.put(0, 3)
	a.holds("P0.1: one index", 0, 2, 2, 1)
	b.holds("P0.1: another", 0, 1, 3)
	want(t, "P0.1: their accesses", []int{a.index.Accesses(), b.index.Accesses()}, []int{4, 2})
}

// What the slots hold is not looked at.
func TestPayloadsDoNotMatter(t *testing.T) {
	type thing struct{ f func() }
	a, _ := cells.New[thing](2, 1)
	a.Alloc(thing{func() { panic("it was looked at") }})
	a.Alloc(thing{})
	x, _ := chain.New(a, 0, 1)
	for s := 1; s <= 2; s++ {
		for m := x.Insert(0, s); !m.Step(); {
		}
	}
	want(t, "P4.3: List", pair(x.List(0)), pair([]int{2, 1}, api.OK))
}
