package engine_test

import (
	"fmt"
	"math"
	"strings"
	"testing"

	"strata/api"
	"strata/bits"
	"strata/engine"
)

const rc, si, rr, full = api.ReadCommitted, api.Snapshot, api.RepeatableRead, api.Serializable

func begin(iso int) api.Call         { return api.Call{Kind: api.CallBegin, Iso: iso} }
func get(k string) api.Call          { return api.Call{Kind: api.CallGet, Key: k} }
func insert(k, d string) api.Call    { return api.Call{Kind: api.CallInsert, Key: k, Data: d} }
func update(k, d string) api.Call    { return api.Call{Kind: api.CallUpdate, Key: k, Data: d} }
func remove(k string) api.Call       { return api.Call{Kind: api.CallDelete, Key: k} }
func scan(low, high string) api.Call { return api.Call{Kind: api.CallScan, Key: low, High: high} }
func commit() api.Call               { return api.Call{Kind: api.CallCommit} }
func abort() api.Call                { return api.Call{Kind: api.CallAbort} }
func collect(n int) api.Call         { return api.Call{Kind: api.CallCollect, Count: n} }

func row(key, data string, stamp uint64) api.Row {
	return api.Row{Key: key, Data: data, Stamp: stamp}
}

// want holds what was answered against what should have been.
func want(t *testing.T, what string, got, right any) {
	t.Helper()
	if fmt.Sprintf("%+v", got) != fmt.Sprintf("%+v", right) {
		t.Errorf("%s: %+v, want %+v", what, got, right)
	}
}

// strange are numbers at and beyond all bounds.
func strange() []int {
	return []int{math.MinInt, math.MinInt32, -257, -2, -1, 0, 1, 2, 3, 4, 5, 6, 9, 10, 14, 15, 16, 255, 256, 257, 4096, 4097, 1<<31 - 1, 1 << 31, 1 << 32, 1<<32 + 1, 1 << 62, math.MaxInt - 1, math.MaxInt}
}

// texts are keys, data and bounds of all kinds.
func texts() []string {
	return []string{"", "\x00", "a", "a\x00", "aa", "b", "\xff", "ä", strings.Repeat("k", api.MaxKey), strings.Repeat("k", api.MaxKey+1), strings.Repeat("d", api.MaxData), strings.Repeat("d", api.MaxData+1), strings.Repeat("\x00", 100000)}
}

// word tells the word of a transaction.
func word(id int) uint64 {
	w, _ := bits.TxnWord(uint64(id))
	return w
}

// machine is one of the layers below.
type machine interface {
	Step() bool
	Code() api.Errno
}

// world is an engine in a test.
type world struct {
	*engine.Engine
	t *testing.T
}

func open(t *testing.T, c api.Config, rows ...api.Row) *world {
	t.Helper()
	x, e := engine.New(c, rows...)
	if x == nil || e != api.OK {
		t.Fatalf("P10.1: New(%+v): %v, %d", c, x != nil, e)
	}
	return &world{x, t}
}

// size is the engine of the chapter's examples.
func size() api.Config {
	return api.Config{Slots: 8, Buckets: 1, TxSlots: 4, Sessions: 2}
}

// roomy is one in which nothing gets full.
func roomy() api.Config {
	return api.Config{Slots: 200, Buckets: 1, TxSlots: 20, Sessions: 4, Clock: 10}
}

// count is how many accesses each part has had, and all misses.
type count struct{ cells, hash, order, tx, limbo, log, misses int }

func (w *world) count() count {
	b := w.Base()
	log := len(w.Commits(0))
	return count{b.Cells.Accesses(), b.Hash.Accesses(), b.Order.Accesses(), b.Tx.Accesses(), w.Accesses() - b.Accesses() - log, log, b.Misses()}
}

// since tells which accesses were made behind a count: c of the cells, h of the hash index, o of the ladder, t of the table, l of the limbo, g of the log; x: a miss.
func (w *world) since(old count) string {
	now, text := w.count(), ""
	for _, part := range []struct {
		letter   string
		old, now int
	}{{"c", old.cells, now.cells}, {"h", old.hash, now.hash}, {"o", old.order, now.order}, {"t", old.tx, now.tx}, {"l", old.limbo, now.limbo}, {"g", old.log, now.log}, {"x", old.misses, now.misses}} {
		for range part.now - part.old {
			text += part.letter
		}
	}
	return text
}

// start gives a session a call that may be.
func (w *world) start(s int, c api.Call) {
	w.t.Helper()
	if e := w.Start(s, c); e != api.OK {
		w.t.Fatalf("P10.2: Start(%d, %+v): %d", s, c, e)
	}
}

// step makes a step of a session that is at work, which is one access, and tells it.
func (w *world) step(s int) (string, bool) {
	w.t.Helper()
	old := w.count()
	done, e := w.Step(s)
	made := w.since(old)
	if len(made) != 1 || e != api.OK || done == w.Busy(s) {
		w.t.Fatalf("P0.2: a step of session %d made the accesses %q; done: %v, busy: %v, %d", s, made, done, w.Busy(s), e)
	}
	return made, done
}

// steps makes steps of a session's call, of which none is the last, and tells their accesses.
func (w *world) steps(s, n int) string {
	w.t.Helper()
	text := ""
	for range n {
		made, done := w.step(s)
		if text += made; done {
			w.t.Fatalf("session %d is done behind %q", s, text)
		}
	}
	return text
}

// rest makes the steps of a session's call that are left, and tells the accesses.
func (w *world) rest(s int) string {
	w.t.Helper()
	text := ""
	for range 20000 {
		made, done := w.step(s)
		if text += made; done {
			return text
		}
	}
	w.t.Fatalf("session %d is not done", s)
	return ""
}

// take takes the answer of a session.
func (w *world) take(s int) api.Answer {
	w.t.Helper()
	a, e := w.Take(s)
	if e != api.OK {
		w.t.Fatalf("P10.4: Take(%d): %d", s, e)
	}
	return a
}

// run runs a call to its end, and tells its answer and its accesses.
func (w *world) run(s int, c api.Call) (api.Answer, string) {
	w.t.Helper()
	w.start(s, c)
	made := w.rest(s)
	return w.take(s), made
}

// do runs calls, all of which have to be answered OK.
func (w *world) do(s int, calls ...api.Call) {
	w.t.Helper()
	for _, c := range calls {
		if a, _ := w.run(s, c); a.Code != api.OK {
			w.t.Fatalf("session %d, %+v: %+v", s, c, a)
		}
	}
}

// answers runs a call and holds its answer against the right one.
func (w *world) answers(what string, s int, c api.Call, right api.Answer) string {
	w.t.Helper()
	a, made := w.run(s, c)
	want(w.t, fmt.Sprintf("%s: session %d, %+.60v", what, s, c), a, right)
	return made
}

// code runs a call and holds its code against the right one; an error stands alone.
func (w *world) code(what string, s int, c api.Call, right api.Errno) string {
	w.t.Helper()
	a, made := w.run(s, c)
	want(w.t, fmt.Sprintf("%s: session %d, %+.60v", what, s, c), a.Code, right)
	if right != api.OK {
		want(w.t, fmt.Sprintf("%s: session %d, %+.60v", what, s, c), a, api.Answer{Code: right})
	}
	return made
}

func pair(key, data string) api.Pair { return api.Pair{Key: key, Data: data} }

func stamped(n uint64) api.Answer { return api.Answer{Stamp: n} }

func refused(e api.Errno) api.Answer { return api.Answer{Code: e} }

func told(rows ...api.Pair) api.Answer { return api.Answer{Rows: rows} }

// keys tells the keys and data of rows.
func keys(rows []api.Row) string {
	text := ""
	for _, r := range rows {
		text += r.Key + "=" + r.Data + " "
	}
	return strings.TrimSpace(text)
}

// wordsOf tells both words of a version.
func (w *world) wordsOf(slot int) [2]uint64 {
	w.t.Helper()
	begin, end, e := w.Base().Words(slot)
	if e != api.OK {
		w.t.Fatalf("Words(%d): %d", slot, e)
	}
	return [2]uint64{begin, end}
}

// alone runs a machine of a layer below to its end, which has to be well.
func (w *world) alone(m machine) {
	w.t.Helper()
	for range 20000 {
		if m.Step() {
			want(w.t, fmt.Sprintf("%T", m), m.Code(), api.OK)
			return
		}
	}
	w.t.Fatalf("a %T is not done", m)
}

// last tells the last operation of a transaction, and how many there are.
func (w *world) last(txn int) (int, api.HOp) {
	w.t.Helper()
	h := w.History()
	if txn >= len(h.Txns) {
		w.t.Fatalf("P10.14: %d transactions", len(h.Txns))
	}
	ops := h.Txns[txn].Ops
	if len(ops) == 0 {
		return 0, api.HOp{}
	}
	return len(ops), ops[len(ops)-1]
}
