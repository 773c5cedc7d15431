package sweep_test

import (
	"fmt"
	"math"
	"strconv"
	"testing"

	"strata/api"
	"strata/bits"
	"strata/sweep"
	"strata/version"
)

// want holds what was answered against what should have been.
func want(t *testing.T, what string, got, right any) {
	t.Helper()
	if fmt.Sprint(got) != fmt.Sprint(right) {
		t.Errorf("%s: %v, want %v", what, got, right)
	}
}

// strange are numbers at and beyond all bounds.
func strange() []int {
	return []int{math.MinInt, math.MinInt32, -257, -2, -1, 0, 1, 2, 3, 4, 5, 6, 9, 255, 256, 257, 4096, 4097, 1<<31 - 1, 1 << 31, 1 << 32, 1<<32 + 1, 1 << 62, math.MaxInt - 1, math.MaxInt}
}

// stamps are numbers for timestamps at and beyond all bounds.
func stamps() []uint64 {
	return []uint64{0, 1, 2, api.MaxTime - 1, api.MaxTime, api.MaxTime + 1, api.Infinity - 1, api.Infinity, 1 << 63, 1<<63 + 1, 1<<63 + 1<<62, 1<<64 - 1}
}

// badWords are words of no kind.
func badWords() []uint64 {
	return []uint64{api.MaxTime + 1, 1 << 62, api.Infinity - 1, 1<<63 + 1<<62, 1<<63 + 1<<62 + 1, 1<<64 - 1}
}

type machine interface {
	Step() bool
	Code() api.Errno
}

// told tells what a machine tells beside its code.
func told(m machine) any {
	switch x := m.(type) {
	case *sweep.Reclaim:
		return x.Freed()
	case *sweep.Pass:
		return [2]uint64{uint64(x.Unlinked()), x.Floor()}
	}
	return nil
}

// world is a base with a sweeper in a test.
type world struct {
	*version.Base
	*sweep.Sweeper
	t *testing.T
}

func newWorld(t *testing.T, slots, buckets, places int, clock uint64) *world {
	t.Helper()
	b, e := version.New(api.Config{Slots: slots, Buckets: buckets, TxSlots: places, Clock: clock})
	if b == nil || e != api.OK {
		t.Fatalf("version.New: %v, %d", b != nil, e)
	}
	s, e := sweep.New(b)
	if s == nil || e != api.OK {
		t.Fatalf("P8.1: New: %v, %d", s != nil, e)
	}
	return &world{b, s, t}
}

// word tells the word of a transaction.
func word(id int) uint64 {
	w, _ := bits.TxnWord(uint64(id))
	return w
}

// open opens records.
func (w *world) open(n int) {
	w.t.Helper()
	for range n {
		if _, e := w.Tx.Open(api.TxInfo{Session: 1, Iso: api.Snapshot}); e != api.OK {
			w.t.Fatalf("Open: %d", e)
		}
	}
}

// begin begins a transaction.
func (w *world) begin() (int, uint64) {
	w.t.Helper()
	id, _ := w.Tx.Open(api.TxInfo{Session: 1, Iso: api.Snapshot})
	m := w.Tx.Start(id)
	w.run(m)
	if m.Code() != api.OK {
		w.t.Fatalf("a transaction does not begin: %d", m.Code())
	}
	return id, m.Begin()
}

// leave ends a transaction that has done nothing.
func (w *world) leave(id int) {
	w.t.Helper()
	w.Tx.Move(id, api.TxAborted)
	m := w.Tx.Leave(id)
	w.run(m)
	want(w.t, "Leave", m.Code(), api.OK)
}

// tick brings the clock to a timestamp.
func (w *world) tick(clock uint64) {
	w.t.Helper()
	for {
		now, _ := w.Tx.Horizon()
		if now >= clock {
			want(w.t, "the clock", now, clock)
			return
		}
		w.Tx.Tick()
	}
}

// put brings a version of a key in, with any words.
func (w *world) put(key string, begin, end uint64) int {
	w.t.Helper()
	m := w.Load(0, key, "")
	w.run(m)
	want(w.t, "Load", m.Code(), api.OK)
	w.write(m.Slot(), begin, end)
	return m.Slot()
}

// write writes the words of a version.
func (w *world) write(slot int, begin, end uint64) {
	w.Cells.Store(slot, api.CellBegin, begin)
	w.Cells.Store(slot, api.CellEnd, end)
}

// collect takes a version out that is garbage at a floor.
func (w *world) collect(slot int, floor uint64) {
	w.t.Helper()
	m := w.Collect(slot, floor)
	w.run(m)
	want(w.t, fmt.Sprintf("P8.5: Collect(%d, %d)", slot, floor), m.Code(), api.OK)
}

// claim tells the claim of a version.
func (w *world) claim(slot int) uint64 {
	cells, _ := w.Cells.Peek(slot)
	if cells == nil {
		return 0
	}
	return cells[api.CellClaim]
}

// linked looks at what stands in the indexes: in the buckets, one behind the other, and in the ladder.
func (w *world) linked(what string, hash, order []int) {
	w.t.Helper()
	var all []int
	held := 0
	for bucket := range w.Hash.Buckets() {
		list, _ := w.Hash.List(bucket)
		n, _ := w.Hash.Held(bucket)
		all, held = append(all, list...), held+n
	}
	row, _ := w.Order.List(0)
	n, _ := w.Order.Held(0)
	want(w.t, what+": what is linked", []any{all, held, row, n}, []any{hash, len(hash), order, len(order)})
}

// amounts looks at what the sweeper counts.
func (w *world) amounts(what string, limbo, unlinked, freed int) {
	w.t.Helper()
	want(w.t, what+": P8.2: Limbo, Unlinked, Freed", []int{w.Limbo(), w.Unlinked(), w.Freed()}, []int{limbo, unlinked, freed})
}

// all tells how many accesses there were, of the base and of the limbo.
func (w *world) all() int { return w.Base.Accesses() + w.Sweeper.Accesses() }

// count is how many accesses each part has had, and all misses.
type count struct{ cells, hash, order, tx, limbo, misses int }

func (w *world) count() count {
	return count{w.Cells.Accesses(), w.Hash.Accesses(), w.Order.Accesses(), w.Tx.Accesses(), w.Sweeper.Accesses(), w.Misses()}
}

// since tells which accesses were made behind a count: c of the cells, h of the hash index, o of the ladder, t of the table, l of the limbo; x: a miss.
func (w *world) since(old count) string {
	now, text := w.count(), ""
	for _, part := range []struct {
		letter   string
		old, now int
	}{{"c", old.cells, now.cells}, {"h", old.hash, now.hash}, {"o", old.order, now.order}, {"t", old.tx, now.tx}, {"l", old.limbo, now.limbo}, {"x", old.misses, now.misses}} {
		for range part.now - part.old {
			text += part.letter
		}
	}
	return text
}

// step makes a step and tells its accesses, which are one at most, and just one if it is not the last (P8.4).
func (w *world) step(m machine) (string, bool) {
	w.t.Helper()
	old, all := w.count(), w.all()
	done := m.Step()
	made := w.all() - all
	if made > 1 || !done && made != 1 {
		w.t.Fatalf("P8.4: a step of %T made %d accesses (the last: %v)", m, made, done)
	}
	if !done && m.Code() != api.OK {
		w.t.Fatalf("%T: it tells %d ahead of its end", m, m.Code())
	}
	return w.since(old), done
}

// run steps a machine till it is done, and tells its accesses.
func (w *world) run(m machine) string {
	w.t.Helper()
	text := ""
	for range 20000 {
		made, done := w.step(m)
		text += made
		if done {
			return text
		}
	}
	w.t.Fatalf("a %T that is stepped alone is not done", m)
	return ""
}

// play makes as many steps as there are accesses; none is the last.
func (w *world) play(what string, m machine, accesses string) {
	w.t.Helper()
	for i := range accesses {
		made, done := w.step(m)
		want(w.t, fmt.Sprintf("%s: step %d", what, i+1), []any{made, done}, []any{accesses[i : i+1], false})
	}
}

// finish makes the steps that are left, and holds the accesses, the code and what is told against the right ones.
func (w *world) finish(what string, m machine, accesses string, e api.Errno, tells any) {
	w.t.Helper()
	made := w.run(m)
	want(w.t, what+": accesses, code, what it tells", []any{made, m.Code(), told(m)}, []any{accesses, e, tells})
	w.rests(what, m)
}

// inside tells all that base and sweeper hold.
func (w *world) inside() string { return dump(w.Base, w.Sweeper) }

// rests looks whether a done machine stays as it is.
func (w *world) rests(what string, m machine) {
	w.t.Helper()
	old, code, tells, inside := w.count(), m.Code(), told(m), w.inside()
	want(w.t, what+", when it is done", []any{m.Step(), m.Step(), m.Code(), told(m), w.since(old)}, []any{true, true, code, tells, ""})
	if w.inside() != inside {
		w.t.Errorf("%s: when it is done it changes something", what)
	}
}

// refused looks at a machine that is done at its first step, without an access, and changes nothing.
func (w *world) refused(what string, m machine, e api.Errno) {
	w.t.Helper()
	none := told(m)
	want(w.t, what+": ahead of its steps", m.Code(), api.OK)
	inside := w.inside()
	made, done := w.step(m)
	if made == "x" && e == api.ErrSlot {
		made = "" // a slot that is not in use counts as a miss
	}
	want(w.t, what, []any{made, done, m.Code(), told(m)}, []any{"", true, e, none})
	if w.inside() != inside {
		w.t.Errorf("%s: it has changed something", what)
	}
	w.rests(what, m)
}

// wordOf reads a word as tests write it: "inf", "bad", a timestamp, or "#" and the number of a transaction.
func wordOf(text string) uint64 {
	switch {
	case text == "inf":
		return api.Infinity
	case text == "bad":
		return 1 << 62
	case text[0] == '#':
		id, _ := strconv.Atoi(text[1:])
		return word(id)
	}
	stamp, _ := strconv.ParseUint(text, 10, 64)
	return stamp
}

// another is a second sweeper over the same base.
func (w *world) another() *world {
	w.t.Helper()
	s, e := sweep.New(w.Base)
	want(w.t, "P8.1: a second sweeper", []any{s != nil, e}, []any{true, api.OK})
	return &world{w.Base, s, w.t}
}
