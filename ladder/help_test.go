package ladder_test

import (
	"fmt"
	"math"
	"slices"
	"testing"

	"strata/api"
	"strata/cells"
	"strata/ladder"
)

// want holds what was answered against what should have been.
func want(t *testing.T, what string, got, right any) {
	t.Helper()
	if fmt.Sprint(got) != fmt.Sprint(right) {
		t.Errorf("%s: %v, want %v", what, got, right)
	}
}

// pair takes the two answers of a call as one.
func pair(v any, e api.Errno) [2]any { return [2]any{v, e} }

// strange are numbers at and beyond all bounds.
func strange() []int {
	return []int{math.MinInt, math.MinInt32, -4097, -5, -2, -1, 0, 1, 2, 3, 4, 5, 8, 15, 16, 17, 4095, 4096, 4097, 1<<31 - 2, 1<<31 - 1, 1 << 31, 1 << 32, math.MaxInt - 3, math.MaxInt}
}

type (
	entry  = api.Entry
	insert = ladder.Insert[entry]
	remove = ladder.Remove[entry]
	walk   = ladder.Walk[entry]
)

type machine interface {
	Step() bool
	Code() api.Errno
}

const (
	endNumber = 1<<31 - 1
	endWord   = uint64(2 * endNumber)
	first     = 2 // the first link cell of a world's slots
	width     = first + 4 + 1
)

// world is a ladder over an arena; ahead of the link cells and behind them are others, which hold 7 and 9.
type world struct {
	t      *testing.T
	arena  *cells.Arena[entry]
	ladder *ladder.Ladder[entry]
	levels int
}

// newWorld has so many slots, of which the first ones are in use, one for each name; its height is the number behind the name ("b2").
func newWorld(t *testing.T, slots, levels int, names ...string) *world {
	t.Helper()
	a, e := cells.New[entry](slots, width)
	if e != api.OK {
		t.Fatalf("cells.New(%d, %d): %d", slots, width, e)
	}
	l, e := ladder.New(a, first, levels)
	if l == nil || e != api.OK {
		t.Fatalf("P5.1: New(a, %d, %d) = %v, %d", first, levels, l != nil, e)
	}
	w := &world{t, a, l, levels}
	for _, name := range names {
		w.alloc(name[:len(name)-1], int(name[len(name)-1]-'0'))
	}
	return w
}

func (w *world) alloc(key string, height int) int {
	words := make([]uint64, width)
	words[0], words[1], words[width-1] = 7, 7, 9
	slot, _ := w.arena.Alloc(entry{Name: key, Tall: height}, words...)
	return slot
}

func (w *world) accesses() int { return w.arena.Accesses() + w.ladder.Accesses() }

// links tells what the link cells of a slot hold.
func (w *world) links(slot int) []uint64 {
	w.t.Helper()
	l, e := w.arena.Peek(slot)
	if e != api.OK {
		w.t.Fatalf("Peek(%d): %d", slot, e)
	}
	if l[0] != 7 || l[1] != 7 || l[width-1] != 9 {
		w.t.Fatalf("P5.1: other cells than the link cells of %d were written: %v", slot, l)
	}
	return l[first : first+w.levels]
}

// set writes a link by other hands.
func (w *world) set(slot, level int, word uint64) { w.arena.Store(slot, first+level, word) }

// row tells all slots that stand in a level's row, the marked ones too.
func (w *world) row(level int) []int {
	var met []int
	for word := w.ladder.Head(level); word != endWord; word = w.links(int(word / 2))[level] &^ 1 {
		if met = append(met, int(word/2)); len(met) > 4096 {
			w.t.Fatalf("P5.6: a ring at level %d", level)
		}
	}
	return met
}

// step makes a step and looks how many accesses it made.
func (w *world) step(m machine) bool {
	n := w.accesses()
	done := m.Step()
	if n = w.accesses() - n; n > 1 {
		w.t.Fatalf("P5.11: a step made %d accesses", n)
	}
	return done
}

// run steps a machine till it is done (a walk: till it arrives) and tells how many steps that took.
func (w *world) run(m machine) int {
	w.t.Helper()
	for n := 1; n < 100000; n++ {
		if w.step(m) {
			return n
		}
	}
	w.t.Fatalf("P5.10: a machine that is stepped alone is not done")
	return 0
}

// steps makes so many steps of which none is the last.
func (w *world) steps(m machine, n int) {
	w.t.Helper()
	for i := range n {
		if w.step(m) {
			w.t.Fatalf("P5.5: done at the step %d, with %d", i+1, m.Code())
		}
	}
}

// put inserts slots, one after the other.
func (w *world) put(slots ...int) {
	w.t.Helper()
	for _, s := range slots {
		m := w.ladder.Insert(s)
		w.run(m)
		want(w.t, fmt.Sprintf("P5.5: Insert(%d)", s), m.Code(), api.OK)
	}
}

// holds looks at List and Held of a level.
func (w *world) holds(what string, level, held int, list ...int) {
	w.t.Helper()
	n, misses := w.accesses(), w.arena.Misses()
	want(w.t, fmt.Sprintf("%s: List(%d)", what, level), pair(w.ladder.List(level)), pair(list, api.OK))
	want(w.t, fmt.Sprintf("%s: Held(%d)", what, level), pair(w.ladder.Held(level)), pair(held, api.OK))
	want(w.t, "P5.3: accesses and misses of List and Held", []int{w.accesses() - n, w.arena.Misses() - misses}, []int{0, 0})
}

// stops tells where a walk stands when it arrives, till it is ended.
func (w *world) stops(m *walk) []int {
	w.t.Helper()
	var slots []int
	for range 100000 {
		if m.Ended() {
			return slots
		}
		if w.step(m) && m.Slot() != 0 {
			slots = append(slots, m.Slot())
		}
	}
	w.t.Fatalf("P5.10: a walk that is stepped alone is not ended")
	return nil
}

// scene is what is to be seen behind a step of a machine: its answer, its code, the accesses to heads, and words that the step has changed.
type scene struct {
	done    bool
	code    api.Errno
	heads   int // by this step: 0 or 1
	changed string
}

// words tells all words of the ladder by their names: "h1" is the head of level 1, "2.0" the link of slot 2 at level 0.
func (w *world) words() map[string]uint64 {
	all := map[string]uint64{}
	for v := range w.levels {
		all[fmt.Sprint("h", v)] = w.ladder.Head(v)
	}
	for _, s := range w.arena.Live() {
		for v, word := range w.links(s) {
			all[fmt.Sprint(s, ".", v)] = word
		}
	}
	return all
}

// tellWord writes a word as the chapter speaks of it: the slot, or "end", with "*" for the mark.
func tellWord(word uint64) string {
	text := fmt.Sprint(word / 2)
	if word/2 == endNumber {
		text = "end"
	}
	if word%2 == 1 {
		text += "*"
	}
	return text
}

// change tells what has changed since, as "h1=2": one word at most.
func (w *world) change(before map[string]uint64) string {
	text := ""
	for name, word := range w.words() {
		if before[name] != word {
			text += name + "=" + tellWord(word)
		}
	}
	return text
}

// play steps a machine and holds every step against the right scenes.
func (w *world) play(what string, m machine, right ...scene) {
	w.t.Helper()
	for i, r := range right {
		before, heads, n := w.words(), w.ladder.Accesses(), w.accesses()
		got := scene{done: w.step(m), code: m.Code()}
		got.heads, got.changed = w.ladder.Accesses()-heads, w.change(before)
		want(w.t, fmt.Sprintf("%s: step %d", what, i+1), got, r)
		want(w.t, fmt.Sprintf("P5.11: %s: accesses of step %d", what, i+1), w.accesses()-n, 1)
	}
	if !right[len(right)-1].done {
		return
	}
	n, code := w.accesses(), m.Code()
	want(w.t, what+": a done one", []any{m.Step(), m.Step(), m.Code(), w.accesses() - n}, []any{true, true, code, 0})
}

// load, loadHead, .. are the scenes of a step that is not the last.
func load() scene                   { return scene{} }
func loadHead() scene               { return scene{heads: 1} }
func write(changed string) scene    { return scene{changed: changed} }
func swapHead(changed string) scene { return scene{heads: 1, changed: changed} }
func (s scene) last(e ...api.Errno) scene {
	s.done = true
	for _, code := range e {
		s.code = code
	}
	return s
}

// sorted tells slots in the ladder's order.
func (w *world) sorted(slots ...int) []int {
	l := slices.Clone(slots)
	slices.SortFunc(l, func(a, b int) int {
		x, _ := w.arena.Payload(a)
		y, _ := w.arena.Payload(b)
		if x.Name != y.Name {
			return map[bool]int{true: -1, false: 1}[x.Name < y.Name]
		}
		return a - b
	})
	return l
}

// scribble writes into a list and the room behind it.
func scribble(l []int) {
	l = l[:cap(l)]
	for i := range l {
		l[i] = -99
	}
}
