package ladder_test

import (
	"fmt"
	"math/rand"
	"testing"

	"strata/api"
	"strata/cells"
	"strata/ladder"
)

func TestNoObjects(t *testing.T) {
	refused, _ := ladder.New[entry](nil, 0, 1)
	for name, l := range map[string]*ladder.Ladder[entry]{"nil": nil, "refused": refused, "not made by New": {}} {
		want(t, "P5.2: Accesses, "+name, l.Accesses(), 0)
		for _, n := range strange() {
			want(t, "P5.3: List, "+name, pair(l.List(n)), pair([]int(nil), api.ErrNil))
			want(t, "P5.3: Held, "+name, pair(l.Held(n)), pair(0, api.ErrNil))
			want(t, "P5.4: machines, "+name, []any{l.Insert(n) == nil, l.Remove(n) == nil, l.Walk("") == nil}, []any{true, true, true})
		}
	}
}

// Machines that no ladder has made are as nil ones.
func TestNoMachines(t *testing.T) {
	var i *insert
	var r *remove
	var w *walk
	for range 3 {
		want(t, "P5.4: a nil Insert", []any{i.Step(), i.Code()}, []any{true, api.ErrNil})
		want(t, "P5.4: a nil Remove", []any{r.Step(), r.Code()}, []any{true, api.ErrNil})
		want(t, "P5.4: a nil Walk", []any{w.Step(), w.Slot(), w.Ended(), w.Code()}, []any{true, 0, true, api.ErrNil})
		i, r, w = new(insert), new(remove), new(walk)
	}
}

func TestNoCallPanics(t *testing.T) {
	w := newWorld(t, 6, 3, "a3", "b2", "c0", "d4", "e1")
	w.put(1, 2)
	for _, n := range strange() {
		w.ladder.List(n)
		w.ladder.Held(n)
		all := []machine{w.ladder.Insert(n), w.ladder.Remove(n), w.ladder.Walk(""), w.ladder.Walk(string(make([]byte, 1<<16))), w.ladder.Walk("\xff\xff")}
		for range 30 {
			for _, m := range all {
				w.step(m)
				m.Code()
			}
		}
	}
}

// thing is a payload that may be missing, or may refuse to be asked.
type thing struct {
	key    string
	height func() int
}

func (x *thing) Key() string { return x.key }
func (x *thing) Height() int { return x.height() }

// A payload that can't be asked answers zero: its slot has no height that may be.
func TestPayloadsThatPanic(t *testing.T) {
	a, _ := cells.New[*thing](4, 1)
	a.Alloc(nil)
	a.Alloc(&thing{key: "x"})
	a.Alloc(&thing{key: "x", height: func() int { panic("no height") }})
	a.Alloc(&thing{key: "x", height: func() int { return 1 }})
	l, _ := ladder.New(a, 0, 1)
	n := a.Accesses()
	for s, right := range []api.Errno{api.ErrLevel, api.ErrLevel, api.ErrLevel, api.OK} {
		m := l.Insert(s + 1)
		for !m.Step() {
		}
		want(t, fmt.Sprintf("P0.1: Insert(%d)", s+1), m.Code(), right)
		if right != api.OK {
			r := l.Remove(s + 1)
			want(t, fmt.Sprintf("P0.1: Remove(%d)", s+1), []any{r.Step(), r.Code(), a.Accesses() - n}, []any{true, right, 0})
		}
	}
	a.Free(4)
	a.Alloc(nil) // slot 4, which is linked still, has now no key that could be asked for
	w := l.Walk("a")
	want(t, "P0.1: a walk", []any{w.Step(), w.Step(), w.Slot(), w.Code()}, []any{false, true, 0, api.OK})

	b, _ := cells.New[api.Keyed](2, 4)
	b.Alloc(nil)
	b.Alloc(entry{Name: "a", Tall: 4})
	k, _ := ladder.New(b, 0, 4)
	for s, right := range []api.Errno{api.ErrLevel, api.OK} {
		m := k.Insert(s + 1)
		for !m.Step() {
		}
		want(t, fmt.Sprintf("P0.1: a payload that is an interface: Insert(%d)", s+1), m.Code(), right)
	}
	want(t, "P0.1: the row", pair(k.List(3)), pair([]int{2}, api.OK))
}

// A list that was given out is the caller's: what is written into it, or behind it, is seen by nobody else.
func TestAnswersAreNewMemory(t *testing.T) {
	w := newWorld(t, 6, 2, "a1", "b2", "c1", "d2", "e1")
	w.put(1, 2, 3, 4, 5)
	for v, right := range [][]int{{1, 2, 3, 4, 5}, {2, 4}} {
		kept, _ := w.ladder.List(v)
		l, _ := w.ladder.List(v)
		scribble(l)
		want(t, "P0.1: an earlier answer", kept, right)
		w.holds("P0.1: the ladder", v, len(right), right...)
		_ = append(kept[:1], 77)
		w.holds("P0.1: the ladder", v, len(right), right...)
	}
}

// Objects of different New's have nothing in common, and the same calls give the same answers.
func TestObjectsHaveNothingInCommon(t *testing.T) {
	a, b := newWorld(t, 3, 2, "a2", "b1", "c1"), newWorld(t, 3, 2, "a2", "b1", "c1")
	a.put(1, 2)
	b.put(3)
	a.holds("P0.1: one ladder", 0, 2, 1, 2)
	b.holds("P0.1: another", 0, 1, 3)
	want(t, "P0.1: their accesses", []int{a.ladder.Accesses(), b.ladder.Accesses()}, []int{4 + 1, 3})
}

// The payloads are not changed, and the same script has the same answers at every time.
func TestTheSameAgain(t *testing.T) {
	tell := func() string {
		source := rand.New(rand.NewSource(9))
		w := newWorld(t, 5, 3, "b3", "a2", "c1", "b1", "d2")
		all := []machine{w.ladder.Insert(1), w.ladder.Insert(2), w.ladder.Insert(3), w.ladder.Insert(4), w.ladder.Insert(5), w.ladder.Walk("b"), w.ladder.Remove(1), w.ladder.Remove(2)}
		text := ""
		for range 150 {
			m := all[source.Intn(len(all))]
			text += fmt.Sprint(m.Step(), m.Code(), w.words())
		}
		for slot, x := range w.arena.All() {
			text += fmt.Sprint(slot, x)
		}
		return text
	}
	first := tell()
	for range 5 {
		if tell() != first {
			t.Fatal("P0.1: the same steps, and other answers")
		}
	}
}
