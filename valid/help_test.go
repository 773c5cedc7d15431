package valid_test

import (
	"fmt"
	"math"
	"strconv"
	"strings"
	"testing"

	"strata/api"
	"strata/bits"
	"strata/valid"
	"strata/version"
)

// want holds what was answered against what should have been.
func want(t *testing.T, what string, got, right any) {
	t.Helper()
	if fmt.Sprint(got) != fmt.Sprint(right) {
		t.Errorf("%s: %v, want %v", what, got, right)
	}
}

// strange are numbers at and beyond all bounds.
func strange() []int {
	return []int{math.MinInt, math.MinInt32, -257, -2, -1, 0, 1, 2, 3, 4, 5, 6, 9, 255, 256, 257, 4096, 4097, 1<<31 - 1, 1 << 31, 1 << 32, 1<<32 + 1, 1 << 62, math.MaxInt - 1, math.MaxInt}
}

// stamps are numbers for timestamps at and beyond all bounds.
func stamps() []uint64 {
	return []uint64{0, 1, 2, api.MaxTime - 1, api.MaxTime, api.MaxTime + 1, api.Infinity - 1, api.Infinity, 1 << 63, 1<<63 + 1, 1<<63 + 1<<62, 1<<64 - 1}
}

// badWords are words of no kind.
func badWords() []uint64 {
	return []uint64{api.MaxTime + 1, 1 << 62, api.Infinity - 1, 1<<63 + 1<<62, 1<<63 + 1<<62 + 1, 1<<64 - 1}
}

// texts are bounds and keys of all kinds.
func texts() []string {
	return []string{"", "\x00", "a", "a\x00", "aa", "b", "zz", "\xff", "\xff\xff", "ä", strings.Repeat("k", api.MaxKey), strings.Repeat("k", api.MaxKey+1), strings.Repeat("\x00", 100000)}
}

type machine interface {
	Step() bool
	Code() api.Errno
}

// sees makes a set of versions and, by pairs of bounds, of ranges.
func sees(t *testing.T, slots []int, bounds ...string) *valid.Sees {
	t.Helper()
	s := valid.NewSees()
	want(t, "P9.1: Read", s.Read(slots...), api.OK)
	for i := 0; i < len(bounds); i += 2 {
		want(t, "P9.1: Look", s.Look(bounds[i], bounds[i+1]), api.OK)
	}
	return s
}

// world is a base in a test.
type world struct {
	*version.Base
	t *testing.T
}

func newWorld(t *testing.T, slots, places int, clock uint64) *world {
	t.Helper()
	b, e := version.New(api.Config{Slots: slots, Buckets: 1, TxSlots: places, Clock: clock})
	if b == nil || e != api.OK {
		t.Fatalf("version.New: %v, %d", b != nil, e)
	}
	return &world{b, t}
}

// word tells the word of a transaction.
func word(id int) uint64 {
	w, _ := bits.TxnWord(uint64(id))
	return w
}

// wordOf reads a word as tests write it: "inf", "bad", a timestamp, or "#" and the number of a transaction.
func wordOf(text string) uint64 {
	switch {
	case text == "inf":
		return api.Infinity
	case text == "bad":
		return 1 << 62
	case text[0] == '#':
		id, _ := strconv.Atoi(text[1:])
		return word(id)
	}
	stamp, _ := strconv.ParseUint(text, 10, 64)
	return stamp
}

// open opens records.
func (w *world) open(n int) {
	w.t.Helper()
	for range n {
		if _, e := w.Tx.Open(api.TxInfo{Session: 1, Iso: api.Serializable}); e != api.OK {
			w.t.Fatalf("Open: %d", e)
		}
	}
}

// begin begins a transaction.
func (w *world) begin() (int, uint64) {
	w.t.Helper()
	id, _ := w.Tx.Open(api.TxInfo{Session: 1, Iso: api.Serializable})
	m := w.Tx.Start(id)
	w.alone(m)
	return id, m.Begin()
}

// draw moves a transaction to Preparing and draws its end.
func (w *world) draw(id int) uint64 {
	w.t.Helper()
	want(w.t, "Move", w.Tx.Move(id, api.TxPreparing), api.OK)
	m := w.Tx.Draw(id)
	w.alone(m)
	return m.End()
}

// move moves a record through states.
func (w *world) move(id int, states ...int) {
	w.t.Helper()
	for _, s := range states {
		want(w.t, fmt.Sprintf("Move(%d, %d)", id, s), w.Tx.Move(id, s), api.OK)
	}
}

// alone runs a machine of a layer below to its end, which has to be well.
func (w *world) alone(m machine) {
	w.t.Helper()
	w.run(m)
	want(w.t, fmt.Sprintf("%T", m), m.Code(), api.OK)
}

// put brings a version of a key in, with any words.
func (w *world) put(key string, begin, end string) int {
	w.t.Helper()
	m := w.Load(0, key, "")
	w.alone(m)
	w.write(m.Slot(), wordOf(begin), wordOf(end))
	return m.Slot()
}

// write writes the words of a version.
func (w *world) write(slot int, begin, end uint64) {
	w.Cells.Store(slot, api.CellBegin, begin)
	w.Cells.Store(slot, api.CellEnd, end)
}

// waits looks at the open and the aborted ones of a record.
func (w *world) waits(what string, id, open, aborted int) {
	w.t.Helper()
	x, y, e := w.Tx.Waits(id)
	want(w.t, fmt.Sprintf("%s: Waits(%d)", what, id), []any{x, y, e}, []any{open, aborted, api.OK})
}

// count is how many accesses each part has had, and all misses.
type count struct{ cells, hash, order, tx, misses int }

func (w *world) count() count {
	return count{w.Cells.Accesses(), w.Hash.Accesses(), w.Order.Accesses(), w.Tx.Accesses(), w.Misses()}
}

// since tells which accesses were made behind a count: c of the cells, h of the hash index, o of the ladder, t of the table; x: a miss.
func (w *world) since(old count) string {
	now, text := w.count(), ""
	for _, part := range []struct {
		letter   string
		old, now int
	}{{"c", old.cells, now.cells}, {"h", old.hash, now.hash}, {"o", old.order, now.order}, {"t", old.tx, now.tx}, {"x", old.misses, now.misses}} {
		for range part.now - part.old {
			text += part.letter
		}
	}
	return text
}

// words tells the words of all versions.
func (w *world) words() string {
	text := ""
	for _, slot := range w.Cells.Live() {
		begin, end, _ := w.Words(slot)
		text += fmt.Sprintln(slot, begin, end)
	}
	return text
}

// isOurs tells whether a machine is one of this layer.
func isOurs(m machine) bool {
	switch m.(type) {
	case *valid.Reads, *valid.Looks, *valid.Check:
		return true
	}
	return false
}

// step makes a step and tells its accesses, which are one at most, and just one if it is not the last; no word of a version is another one behind it (P9.6).
func (w *world) step(m machine) (string, bool) {
	w.t.Helper()
	old, all, words := w.count(), w.Accesses(), w.words()
	done := m.Step()
	made := w.Accesses() - all
	if made > 1 || !done && made != 1 {
		w.t.Fatalf("P9.6: a step of %T made %d accesses (the last: %v)", m, made, done)
	}
	if isOurs(m) && w.words() != words {
		w.t.Fatalf("P9.6: a step of %T has changed a version's words", m)
	}
	if !done && m.Code() != api.OK {
		w.t.Fatalf("%T: it tells %d ahead of its end", m, m.Code())
	}
	return w.since(old), done
}

// run steps a machine till it is done, and tells its accesses.
func (w *world) run(m machine) string {
	w.t.Helper()
	text := ""
	for range 20000 {
		made, done := w.step(m)
		text += made
		if done {
			return text
		}
	}
	w.t.Fatalf("a %T that is stepped alone is not done", m)
	return ""
}

// play makes as many steps as there are accesses; none is the last.
func (w *world) play(what string, m machine, accesses string) {
	w.t.Helper()
	for i := range accesses {
		made, done := w.step(m)
		want(w.t, fmt.Sprintf("%s: step %d", what, i+1), []any{made, done}, []any{accesses[i : i+1], false})
	}
}

// stepsOf tells how many steps accesses take: a miss of the table is an access too, one of the cells is none, and a step all the same.
func stepsOf(accesses string) int {
	n := len(strings.ReplaceAll(accesses, "tx", "t"))
	return max(1, n)
}

// finish makes the steps that are left, and holds their number, the accesses and the code against the right ones.
func (w *world) finish(what string, m machine, accesses string, e api.Errno) {
	w.t.Helper()
	made, steps := "", 0
	for done := false; !done && steps < 20000; steps++ {
		var text string
		text, done = w.step(m)
		made += text
	}
	want(w.t, what+": accesses, steps, code", []any{made, steps, m.Code()}, []any{accesses, stepsOf(accesses), e})
	w.rests(what, m)
}

// rests looks whether a done machine stays as it is.
func (w *world) rests(what string, m machine) {
	w.t.Helper()
	old, code, inside := w.count(), m.Code(), dump(w.Base)
	want(w.t, what+", when it is done", []any{m.Step(), m.Step(), m.Code(), w.since(old)}, []any{true, true, code, ""})
	if dump(w.Base) != inside {
		w.t.Errorf("%s: when it is done it changes something", what)
	}
}

// refused looks at a machine that is done at its first step, without an access, and changes nothing.
func (w *world) refused(what string, m machine, e api.Errno) {
	w.t.Helper()
	want(w.t, what+": ahead of its steps", m.Code(), api.OK)
	inside := dump(w.Base)
	w.finish(what, m, "", e)
	if dump(w.Base) != inside {
		w.t.Errorf("%s: it has changed something", what)
	}
}
