package txtab_test

import (
	"fmt"
	"math"
	"testing"

	"strata/api"
	"strata/txtab"
)

// want holds what was answered against what should have been.
func want(t *testing.T, what string, got, right any) {
	t.Helper()
	if fmt.Sprint(got) != fmt.Sprint(right) {
		t.Errorf("%s: %v, want %v", what, got, right)
	}
}

// pair takes the two answers of a call as one.
func pair(v any, e api.Errno) [2]any { return [2]any{v, e} }

// triple takes three.
func triple(a, b any, e api.Errno) [3]any { return [3]any{a, b, e} }

// strange are numbers at and beyond all bounds.
func strange() []int {
	return []int{math.MinInt, math.MinInt32, -257, -5, -2, -1, 0, 1, 2, 3, 4, 5, 6, 8, 255, 256, 257, 1<<31 - 1, 1 << 31, 1 << 32, 1<<32 + 1, 1<<32 + 5, math.MaxInt - 1, math.MaxInt}
}

// stamps are timestamps at and beyond all bounds.
func stamps() []uint64 {
	return []uint64{0, 1, 2, api.MaxTime - 1, api.MaxTime, api.MaxTime + 1, 1<<63 - 1, 1 << 63, 1<<64 - 1}
}

type machine interface {
	Step() bool
	Code() api.Errno
}

// told tells what a machine tells beside its code.
func told(m machine) uint64 {
	switch x := m.(type) {
	case *txtab.Start:
		return x.Begin()
	case *txtab.Draw:
		return x.End()
	case *txtab.Depend:
		return uint64(x.Came())
	case *txtab.Close:
		return uint64(x.Told())
	case *txtab.Floor:
		return x.Floor()
	}
	return 0
}

const closedPlace = uint64(math.MaxUint64)

// world is a table in a test.
type world struct {
	*txtab.Table
	t *testing.T
}

// newWorld has so many places, of which the first ones are in use.
func newWorld(t *testing.T, slots int, clock uint64, open int) *world {
	t.Helper()
	x, e := txtab.New(slots, clock)
	if x == nil || e != api.OK {
		t.Fatalf("P6.1: New(%d, %d) = %v, %d", slots, clock, x != nil, e)
	}
	w := &world{x, t}
	for i := range open {
		want(t, "P6.3: Open", pair(w.Open(api.TxInfo{Session: i, Iso: 1 + i%4})), pair(i+1, api.OK))
	}
	return w
}

// record tells what a place holds.
func (w *world) record(id int) txtab.Record { return w.Inside().Records[id-1] }

// move moves a record through states.
func (w *world) move(id int, states ...int) {
	w.t.Helper()
	for _, s := range states {
		want(w.t, fmt.Sprintf("P6.4: Move(%d, %d)", id, s), w.Move(id, s), api.OK)
	}
}

// counts tells how many accesses, and misses among them, something made.
func (w *world) counts(do func()) [2]int {
	a, m := w.Accesses(), w.Misses()
	do()
	return [2]int{w.Accesses() - a, w.Misses() - m}
}

// counted looks how many accesses and misses a call made.
func (w *world) counted(what string, accesses, misses int, do func()) {
	w.t.Helper()
	want(w.t, what+": accesses and misses", w.counts(do), [2]int{accesses, misses})
}

// run steps a machine till it is done and tells how many steps that took; each makes one access.
func (w *world) run(m machine) int {
	w.t.Helper()
	for n := 1; n < 10000; n++ {
		done := false
		if made := w.counts(func() { done = m.Step() })[0]; made != 1 {
			w.t.Fatalf("P0.2: a step made %d accesses", made)
		}
		if done {
			return n
		}
	}
	w.t.Fatalf("a machine that is stepped alone is not done")
	return 0
}

// finish runs a machine, and holds its code and what it tells against the right ones.
func (w *world) finish(what string, m machine, steps int, e api.Errno, tells uint64) {
	w.t.Helper()
	n := w.run(m)
	want(w.t, what+": steps, code, what it tells", []any{n, m.Code(), told(m)}, []any{steps, e, tells})
	w.rests(what, m)
}

// refused looks at a machine that is done at its first step, without an access.
func (w *world) refused(what string, m machine, e api.Errno) {
	w.t.Helper()
	want(w.t, what+": the code ahead of its steps", m.Code(), api.OK)
	w.counted(what, 0, 0, func() {
		want(w.t, what, []any{m.Step(), m.Code(), told(m)}, []any{true, e, 0})
	})
	w.rests(what, m)
}

// rests looks whether a done machine stays as it is.
func (w *world) rests(what string, m machine) {
	w.t.Helper()
	code, tells, inside := m.Code(), told(m), fmt.Sprint(w.Inside())
	w.counted(what+", when it is done", 0, 0, func() {
		want(w.t, what+", when it is done", []any{m.Step(), m.Step(), m.Code(), told(m)}, []any{true, true, code, tells})
	})
	want(w.t, what+", when it is done: the table", fmt.Sprint(w.Inside()), inside)
}

// scene is what is to be seen behind a step of a machine that is not its last: the misses, and what has changed.
type scene struct {
	changed string
	misses  int
}

// play makes steps of which none is the last, and holds each against its scene.
func (w *world) play(what string, m machine, right ...scene) {
	w.t.Helper()
	for i, r := range right {
		before, done := w.Inside(), false
		made := w.counts(func() { done = m.Step() })
		want(w.t, fmt.Sprintf("%s: step %d", what, i+1), []any{done, m.Code(), told(m), made[0], made[1], change(before, w.Inside())}, []any{false, api.OK, 0, 1, r.misses, r.changed})
	}
}

// last makes the last step and holds it against what it should be.
func (w *world) last(what string, m machine, right scene, e api.Errno, tells uint64) {
	w.t.Helper()
	before, done := w.Inside(), false
	made := w.counts(func() { done = m.Step() })
	want(w.t, what+": the last step", []any{done, m.Code(), told(m), made[0], made[1], change(before, w.Inside())}, []any{true, e, tells, 1, right.misses, right.changed})
	w.rests(what, m)
}

func nothing() scene            { return scene{} }
func changes(text string) scene { return scene{changed: text} }
func misses() scene             { return scene{misses: 1} }

// change tells what has changed: "clock=3", "1 word=2", "2 place 3=4" and so on.
func change(a, b txtab.Inside) string {
	text := ""
	tell := func(name string, old, now any) {
		if fmt.Sprint(old) != fmt.Sprint(now) {
			text += fmt.Sprintf("%s=%v ", name, now)
		}
	}
	tell("clock", a.Clock, b.Clock)
	tell("free", a.Free, b.Free)
	tell("waiting", a.Waiting, b.Waiting)
	for i := range a.Records {
		x, y := a.Records[i], b.Records[i]
		tell(fmt.Sprint(i+1, " info"), x.Info, y.Info)
		tell(fmt.Sprint(i+1, " state"), x.State, y.State)
		tell(fmt.Sprint(i+1, " announced"), x.Announced, y.Announced)
		tell(fmt.Sprint(i+1, " end"), x.End, y.End)
		tell(fmt.Sprint(i+1, " word"), x.Word, y.Word)
		tell(fmt.Sprint(i+1, " retired"), x.Retired, y.Retired)
		for p := range x.Places {
			now := fmt.Sprint(y.Places[p])
			if y.Places[p] == closedPlace {
				now = "closed"
			}
			if x.Places[p] != y.Places[p] {
				text += fmt.Sprintf("%d place %d=%s ", i+1, p+1, now)
			}
		}
	}
	if text == "" {
		return ""
	}
	return text[:len(text)-1]
}
