package engine_test

import (
	"fmt"
	"strings"
	"testing"

	"strata/api"
)

// ts are so many accesses to the table.
func ts(n int) string { return strings.Repeat("t", n) }

// What the last steps of a transaction are, access by access: Close has one more than two a place for dependents.
const (
	closing = 1 + 2*api.MaxDeps
	leaving = 4
	quitGo  = 3
)

// undoing are the accesses of the end by abort, with so many versions made and taken.
func undoing(versions int) string {
	return ts(1+closing) + strings.Repeat("c", versions) + ts(leaving)
}

func TestBegin(t *testing.T) {
	w := open(t, roomy())
	want(t, "P10.7: accesses", w.answers("P10.7", 2, begin(rr), stamped(11)), "ttttt")
	info, _ := w.Base().Tx.Info(1)
	state, _, _ := w.Base().Tx.Look(1)
	want(t, "P10.7: its record", []any{info, state, w.Open(2)}, []any{api.TxInfo{Session: 2, Iso: rr}, api.TxActive, true})
}

// A table that is full: nothing can be freed, some can, others are held by one that has begun ahead of them.
func TestBeginWithoutRoom(t *testing.T) {
	c := api.Config{Slots: 20, Buckets: 1, TxSlots: 1, Sessions: 3, Clock: 5}
	w := open(t, c)
	w.do(0, begin(si))
	want(t, "P10.7: accesses", w.code("P10.7: nothing to be freed", 1, begin(si), api.ErrTxFull), "t"+"tt"+"t"+"t")
	want(t, "P10.7: Open", []any{w.Open(0), w.Open(1), w.Base().Tx.Live()}, []any{true, false, []int{1}})
	w.do(0, abort())
	want(t, "P10.7: what waits", w.Base().Tx.Waiting(), 1)
	want(t, "P10.7: accesses", w.answers("P10.7: one to be freed", 1, begin(si), stamped(7)), "t"+"tt"+"tt"+"t"+"tttt")

	c.TxSlots = 3
	w = open(t, c)
	for range 3 {
		w.do(0, begin(si), abort())
	}
	want(t, "P10.7: accesses", w.answers("P10.7: three to be freed", 1, begin(si), stamped(9)), "t"+"tttt"+"tttt"+"t"+"tttt")
	want(t, "P10.7: all are freed", []any{w.Base().Tx.Waiting(), w.Base().Tx.Live()}, []any{0, []int{1}})

	w = open(t, c)
	w.do(2, begin(si))
	w.do(0, begin(si), abort())
	w.do(0, begin(si), abort())
	want(t, "P10.7: accesses", w.code("P10.7: two that are held", 1, begin(si), api.ErrTxFull), "t"+"tttt"+"t"+"t")
	want(t, "P10.7: they wait", w.Base().Tx.Waiting(), 2)
	w.do(2, commit())
	w.answers("P10.7: nobody holds them", 1, begin(si), stamped(10))
}

// The record that a begin frees may be taken by another one: then it is refused.
func TestBeginThatComesTooLate(t *testing.T) {
	w := open(t, api.Config{Slots: 20, Buckets: 1, TxSlots: 1, Sessions: 3, Clock: 5})
	w.do(0, begin(si), abort())
	w.start(1, begin(si))
	w.steps(1, 5) // Open, Floor, Free, Free
	w.do(2, begin(si))
	w.rest(1)
	want(t, "P10.7: too late", []any{w.take(1), w.Open(1), w.Open(2)}, []any{refused(api.ErrTxFull), false, true})
}

func TestBeginAtTheEndOfTheClock(t *testing.T) {
	c := size()
	c.Clock = api.MaxTime
	w := open(t, c)
	for range 6 { // more often than there are records
		want(t, "P10.7: accesses", w.code("P10.7: no timestamp", 0, begin(full), api.ErrClock), "t"+"ttt"+"ttt")
		want(t, "P10.7: its record is free", []any{w.Open(0), len(w.Base().Tx.Live()), w.Base().Tx.Waiting(), len(w.History().Txns)}, []any{false, 0, 0, 0})
	}
	c.Clock--
	w = open(t, c)
	w.answers("P10.7: the last timestamp", 0, begin(full), stamped(api.MaxTime))
	w.do(0, insert("a", "1"))
	// Waits, Move, Draw's End and Tick
	want(t, "P10.9: accesses", w.code("P10.9: no end", 0, commit(), api.ErrClock), ts(4)+undoing(1))
	want(t, "P10.9: it has aborted", []any{w.Open(0), len(w.Rows()), len(w.Commits(0)), w.wordsOf(1)}, []any{false, 0, 0, [2]uint64{api.Infinity, api.Infinity}})
}

// Which of the levels asks the clock.
func TestAt(t *testing.T) {
	for iso := rc; iso <= full; iso++ {
		w := open(t, roomy(), row("a", "1", 3))
		w.do(1, begin(iso))
		w.do(0, begin(si), update("a", "2"), insert("b", "3"), commit())
		clock := map[bool]string{true: "t"}[iso == rc]
		data, code := map[bool]string{true: "2", false: "1"}[iso == rc], map[bool]api.Errno{false: api.ErrNotFound}[iso == rc]
		at := map[bool]uint64{true: 13, false: 11}[iso == rc]
		made := w.answers("P10.8: at", 1, get("a"), told(pair("a", data)))
		want(t, fmt.Sprint("P10.8: level ", iso), made[:2+len(clock)], "t"+clock+"h")
		w.code("P10.8: at", 1, get("b"), code)
		_, op := w.last(1)
		want(t, "P10.14: At", op.At, at)
	}
}

func TestGet(t *testing.T) {
	w := open(t, roomy(), row("a", "1", 3))
	w.do(0, begin(full))
	want(t, "P10.8: get", w.answers("P10.8", 0, get("a"), told(pair("a", "1"))), "t"+"hc"+"cc")
	want(t, "P10.8: get", w.answers("P10.8", 0, get("b"), refused(api.ErrNotFound)), "t"+"hc")
	w.do(0, insert("b", "2"))
	w.answers("P10.8: its own", 0, get("b"), told(pair("b", "2")))
	w.do(0, update("b", "3"), update("a", "4"))
	w.answers("P10.8: its own, updated", 0, get("b"), told(pair("b", "3")))
	w.answers("P10.8: another's, updated", 0, get("a"), told(pair("a", "4")))
	w.do(0, remove("a"), remove("b"))
	w.answers("P10.8: deleted", 0, get("b"), refused(api.ErrNotFound))
	w.answers("P10.8: deleted", 0, get("a"), refused(api.ErrNotFound))
	want(t, "P10.8: it goes on", w.Open(0), true)
}

func TestInsert(t *testing.T) {
	w := open(t, roomy(), row("a", "1", 3))
	w.do(0, begin(full))
	// "c" has the height 1: Alloc, the head and the link, the search through the ladder, whose lowest level holds "a"
	want(t, "P10.8: insert", w.answers("P10.8", 0, insert("c", "2"), api.Answer{}), "t"+"c"+"chch"+"c"+"oooo"+"c"+"c"+"c"+"cc")
	want(t, "P10.8: its words", w.wordsOf(2), [2]uint64{word(1), api.Infinity})
	made := w.answers("P10.8: a duplicate", 0, insert("a", "3"), refused(api.ErrDuplicate))
	want(t, "P10.8: the last access is the Store", made[len(made)-1:], "c")
	want(t, "P10.8: it is given up", w.wordsOf(3), [2]uint64{api.Infinity, api.Infinity})
	w.answers("P10.8: a duplicate of its own", 0, insert("c", "3"), refused(api.ErrDuplicate))
	w.do(0, remove("a"), insert("a", "4"), remove("a"), insert("a", "5"))
	w.answers("P10.8: inserted again", 0, scan("", ""), told(pair("a", "5"), pair("c", "2")))
	w.do(0, commit())
	want(t, "P10.8: Rows", keys(w.Rows()), "a=5 c=2")
}

// An insert meets what others are about to write, and what they have written behind its begin.
func TestInsertConflicts(t *testing.T) {
	for _, c := range []struct {
		what string
		run  func(w *world)
		code api.Errno
		iso  int
	}{
		{"another one at work", func(w *world) { w.do(1, begin(si), insert("a", "1")) }, api.ErrConflict, full},
		{"another one at work", func(w *world) { w.do(1, begin(si), insert("a", "1")) }, api.ErrConflict, rc},
		{"another one that has committed behind its begin", func(w *world) { w.do(1, begin(si), insert("a", "1"), commit()) }, api.ErrConflict, full},
		{"another one that has committed, for one that looks now", func(w *world) { w.do(1, begin(si), insert("a", "1"), commit()) }, api.ErrDuplicate, rc},
		{"another one that has aborted", func(w *world) { w.do(1, begin(si), insert("a", "1"), abort()) }, api.OK, full},
		{"a version that was there, and is gone behind its begin", func(w *world) {
			w.do(1, begin(si), insert("a", "1"), remove("a"), commit())
		}, api.ErrConflict, full},
	} {
		w := open(t, roomy())
		w.do(0, begin(c.iso))
		c.run(w)
		w.code("P10.8: "+c.what, 0, insert("a", "2"), c.code)
		want(t, "P10.8: "+c.what+": Open", w.Open(0), c.code != api.ErrConflict)
	}
}

func TestUpdateAndDelete(t *testing.T) {
	w := open(t, roomy(), row("a", "1", 3))
	w.do(0, begin(full))
	want(t, "P10.8: update", w.answers("P10.8", 0, update("a", "2"), api.Answer{})[:6], "t"+"hccc"+"c")
	want(t, "P10.8: words", []any{w.wordsOf(1), w.wordsOf(2)}, []any{[2]uint64{3, word(1)}, [2]uint64{word(1), api.Infinity}})
	w.do(0, update("a", "3"))
	want(t, "P10.8: words", []any{w.wordsOf(2), w.wordsOf(3)}, []any{[2]uint64{word(1), word(1)}, [2]uint64{word(1), api.Infinity}})
	want(t, "P10.8: delete", w.answers("P10.8", 0, remove("a"), api.Answer{}), "t"+"hccc"+"cc")
	want(t, "P10.8: words", w.wordsOf(3), [2]uint64{word(1), word(1)})
	w.answers("P10.8: nothing to be updated", 0, update("a", "4"), refused(api.ErrNotFound))
	w.answers("P10.8: nothing to be deleted", 0, remove("a"), refused(api.ErrNotFound))
	w.answers("P10.8: nothing to be deleted", 0, remove("b"), refused(api.ErrNotFound))
	want(t, "P10.8: it goes on", w.Open(0), true)
	w.do(0, commit())
	want(t, "P10.9: words", []any{w.wordsOf(1), w.wordsOf(2), w.wordsOf(3)}, []any{[2]uint64{3, 12}, [2]uint64{12, 12}, [2]uint64{12, 12}})
}

func TestWritersThatMeet(t *testing.T) {
	for _, call := range []api.Call{update("a", "9"), remove("a")} {
		for iso := rc; iso <= full; iso++ {
			w := open(t, roomy(), row("a", "1", 3), row("b", "1", 3))
			w.do(0, begin(iso), insert("c", ""), update("b", ""))
			w.do(1, begin(si), update("a", "2"))
			made := w.code("P10.8: the first writer wins", 0, call, api.ErrConflict)
			want(t, "P10.10: accesses", strings.HasSuffix(made, undoing(3)), true)
			want(t, "P10.10: it has ended", []any{w.Open(0), w.wordsOf(1), w.wordsOf(2)}, []any{false, [2]uint64{3, word(2)}, [2]uint64{3, api.Infinity}})
			w.do(1, abort())
			w.do(0, begin(iso), call, commit())
		}
	}
}

func TestScan(t *testing.T) {
	rows := []api.Row{row("a", "1", 0), row("b", "2", 0), row("b\x00", "3", 0), row("c", "4", 0), row("zz", "5", 0)}
	pairs := func(from, to int) (all []api.Pair) {
		for _, r := range rows[from:to] {
			all = append(all, pair(r.Key, r.Data))
		}
		return all
	}
	w := open(t, roomy(), rows...)
	w.do(0, begin(full))
	for _, c := range []struct {
		low, high string
		from, to  int
	}{{"", "", 0, 5}, {"a", "", 0, 5}, {"", "a", 0, 0}, {"", "a\x00", 0, 1}, {"a", "b", 0, 1}, {"a", "b\x00", 0, 2}, {"a\x00", "c", 1, 3}, {"b", "b", 0, 0}, {"c", "b", 0, 0}, {"c", "", 3, 5}, {"zz", "", 4, 5}, {"zz\x00", "", 0, 0}, {"", "\xff", 0, 5}, {"", long(api.MaxKey), 0, 4}, {long(api.MaxKey), "", 4, 5}} {
		w.answers("P10.8", 0, scan(c.low, c.high), told(pairs(c.from, c.to)...))
		_, op := w.last(1)
		want(t, "P10.14: a scan", []any{op.Kind, op.Ver, op.Hi, len(op.Seen), op.At}, []any{api.OScan, api.Ver{Key: c.low}, c.high, c.to - c.from, 11})
	}
	// from "zz" on: down the four levels past those that are less; the slot; its words
	empty := open(t, roomy())
	empty.do(0, begin(si))
	want(t, "P10.8: a scan of nothing", empty.answers("P10.8", 0, scan("", ""), api.Answer{}), "t"+"oooo")
	empty.do(0, insert("b", "1"))
	want(t, "P10.8: a scan of one", empty.answers("P10.8", 0, scan("", ""), told(pair("b", "1"))), "t"+"oooo"+"c"+"cc")
	want(t, "P10.8: a scan that ends at its bound", empty.answers("P10.8", 0, scan("", "b"), api.Answer{}), "t"+"oooo"+"c")
	// what it has written itself
	w.do(0, update("b", "6"), remove("c"), insert("d", "7"))
	w.answers("P10.8: its own", 0, scan("b", "e"), told(pair("b", "6"), pair("b\x00", "3"), pair("d", "7")))
}

// full64 is an engine in which versions may be made till the transaction's own bounds are met.
func full64() api.Config {
	return api.Config{Slots: 140, Buckets: 16, TxSlots: 4, Sessions: 2, Clock: 1}
}

func name(i int) string { return fmt.Sprintf("k%03d", i) }

// many are so many calls, one a key.
func many(n int, call func(key string) api.Call) []api.Call {
	var all []api.Call
	for i := range n {
		all = append(all, call(name(i)))
	}
	return all
}

func manyRows(n int) []api.Row {
	var rows []api.Row
	for i := range n {
		rows = append(rows, row(name(i), fmt.Sprint(i), 1))
	}
	return rows
}

// MaxIntents of each kind, and one more, step by step held against the chapter's lines.
func TestLong(t *testing.T) {
	put := func(key string) api.Call { return insert(key, "x") }
	change := func(key string) api.Call { return update(key, "x") }
	absent := func(key string) api.Call { return get(key + "!") }
	for _, c := range []struct {
		what string
		iso  int
		many []api.Call
		last api.Call
		code api.Errno
		more int // operations that the last call tells
	}{
		{"made, by an insert", si, many(64, put), insert("z", ""), api.ErrLong, 0},
		{"made, by an insert of what is there", si, many(64, put), insert(name(0), ""), api.ErrLong, 0},
		{"made, and an update", si, many(64, put), update(name(0), ""), api.ErrLong, 1},
		{"made, and an update of what is not there", si, many(64, put), update("z", ""), api.ErrNotFound, 1},
		{"made, and a delete", si, many(64, put), remove(name(0)), api.OK, 2},
		{"given up", si, append(many(63, put), insert(name(0), ""), insert(name(1), "")), insert("z", ""), api.OK, 1},
		{"taken, by a delete", si, many(64, remove), remove(name(64)), api.ErrLong, 1},
		{"taken, and an insert", si, many(64, remove), insert("z", ""), api.OK, 1},
		{"taken, and an update", rc, many(64, remove), update(name(64), ""), api.ErrLong, 1},
		{"updated", rc, many(64, change), update(name(64), ""), api.ErrLong, 1},
		{"updated, and a delete", rc, many(64, change), remove(name(64)), api.ErrLong, 1},
		{"updated, and an insert", rc, many(64, change), insert("z", ""), api.ErrLong, 0},
		{"one key, again and again", si, many(64, func(string) api.Call { return update(name(0), "x") }), update(name(0), ""), api.ErrLong, 1},
		{"read", rr, many(64, get), get(name(64)), api.ErrLong, 0},
		{"read, and an update", full, many(64, get), update(name(64), ""), api.ErrLong, 0},
		{"read, and an update of one of them", full, many(64, get), update(name(63), ""), api.OK, 2},
		{"read, and a delete", full, many(64, get), remove(name(64)), api.ErrLong, 0},
		{"read, and a duplicate", full, many(64, get), insert(name(64), ""), api.ErrLong, 0},
		{"read, and a duplicate of one of them", full, many(64, get), insert(name(0), ""), api.ErrDuplicate, 1},
		{"read, and one again", full, many(64, get), get(name(63)), api.OK, 1},
		{"read, and its own", full, append(many(64, get), insert("z", "")), get("z"), api.OK, 1},
		{"read, and a scan of them", full, many(64, get), scan("", name(64)), api.OK, 1},
		{"read, and a scan with one more", full, many(64, get), scan("", name(65)), api.ErrLong, 0},
		{"read, as Snapshot", si, many(64, get), get(name(64)), api.OK, 1},
		{"read, as ReadCommitted", rc, many(64, get), scan("", ""), api.OK, 1},
		{"a scan of all", rr, nil, scan("", ""), api.ErrLong, 0},
		{"a scan of as many as may be", rr, nil, scan("", name(64)), api.OK, 1},
		{"ranges", rr, many(64, absent), get("z"), api.ErrLong, 0},
		{"ranges, and one of them", full, many(64, absent), get(name(0) + "!"), api.ErrNotFound, 1},
		{"ranges, and a scan", full, many(64, absent), scan("z", ""), api.ErrLong, 0},
		{"ranges, and a scan of one of them", full, many(64, absent), scan(name(0)+"!", name(0)+"!\x00"), api.OK, 1},
		{"ranges, and an update", full, many(64, absent), update("z", ""), api.ErrLong, 0},
		{"ranges, and a delete", full, many(64, absent), remove("z"), api.ErrLong, 0},
		{"ranges, as Snapshot", si, many(64, absent), get("z"), api.ErrNotFound, 1},
		{"ranges, and a version", full, many(64, absent), get(name(0)), api.OK, 1},
	} {
		t.Run(c.what, func(t *testing.T) {
			t.Parallel()
			var rows []api.Row
			if !strings.HasPrefix(c.what, "made") && c.what != "given up" {
				rows = manyRows(66)
			}
			p := newPair(t, full64(), rows...)
			defer p.leave()
			p.loose = true
			p.play(0, begin(c.iso))
			for _, a := range p.play(0, c.many...) {
				if a.Code != api.OK && a.Code != api.ErrNotFound && (a.Code != api.ErrDuplicate || c.what != "given up") {
					t.Fatalf("P10.8: %+v", a)
				}
			}
			p.loose = false
			txn := len(p.History().Txns) - 1
			ops, _ := p.last(txn)
			want(t, "P10.8: "+c.what, p.play(0, c.last)[0].Code, c.code)
			now, _ := p.last(txn)
			want(t, "P10.14: "+c.what+": what it tells; Open", []any{now - ops, p.Open(0)}, []any{c.more, c.code != api.ErrLong})
			if p.Open(0) {
				want(t, "P10.9: the commit", p.play(0, commit())[0].Code, api.OK)
			}
		})
	}
}

// An arena that is full, in an insert and in an update: the update has taken its version by then.
func TestFull(t *testing.T) {
	c := api.Config{Slots: 3, Buckets: 1, TxSlots: 4, Sessions: 2, Clock: 5}
	w := open(t, c, row("a", "1", 1), row("b", "2", 1))
	w.do(0, begin(full), insert("c", "3"))
	want(t, "P10.8: accesses", w.code("P10.8: no room", 0, insert("d", "4"), api.ErrFull), "t"+"c"+undoing(1))
	want(t, "P10.8: it has ended", []any{w.Open(0), keys(w.Rows())}, []any{false, "a=1 b=2"})
	w.do(0, begin(full))
	made := w.code("P10.8: no room", 0, update("a", "4"), api.ErrFull)
	want(t, "P10.8: accesses", strings.HasSuffix(made, "cc"+"c"+undoing(1)), true)
	want(t, "P10.8: it has ended", []any{w.Open(0), keys(w.Rows()), w.wordsOf(1)}, []any{false, "a=1 b=2", [2]uint64{1, api.Infinity}})
	n, op := w.last(2)
	want(t, "P10.14: an update without room tells its read", []any{n, op.Kind}, []any{1, api.ORead})
	w.do(1, collect(1), collect(1), begin(full), update("a", "4"), commit())
}

// doomed is an engine in which session 1 has a transaction one of whose dependencies has aborted: it has read what session 0 was about to commit.
func doomed(t *testing.T, iso int, also ...api.Call) *pairOf {
	t.Helper()
	c := roomy()
	c.Slots = 30
	p := newPair(t, c, row("z", "0", 1))
	p.play(0, begin(full), get("z"), insert("a", "1"))
	p.play(2, begin(si), update("z", "1"), commit())
	p.begin(0, commit())
	for range 5 { // Waits, Move, Draw
		p.goOn(0)
	}
	p.play(1, begin(iso))
	p.play(1, also...)
	want(t, "it reads what is about to be committed", p.play(1, get("a")), []api.Answer{told(pair("a", "1"))})
	for !p.goOn(0) {
	}
	want(t, "the other one aborts", p.end(0), refused(api.ErrRead))
	return p
}

func TestCascades(t *testing.T) {
	for iso := rc; iso <= full; iso++ {
		for _, c := range []api.Call{get("a"), get("b"), insert("b", ""), update("z", ""), remove("z"), scan("", ""), commit()} {
			p := doomed(t, iso, insert("q", ""))
			old := p.count()
			want(t, fmt.Sprintf("P10.8: a cascade at %+v", c), p.play(1, c), []api.Answer{refused(api.ErrCascade)})
			want(t, "P10.8: accesses", []any{len(p.since(old)), p.Open(1)}, []any{len("t" + undoing(1)), false})
			n, _ := p.last(3)
			want(t, "P10.14: it tells nothing", n, 2)
			p.leave()
		}
		p := doomed(t, iso)
		want(t, "P10.10: an abort does not ask", p.play(1, abort()), []api.Answer{{}})
		p.leave()
	}
}

// A cascade in the midst of a commit: the other one aborts while it waits.
func TestCascadeOfOneThatWaits(t *testing.T) {
	for _, commits := range []bool{true, false} {
		p := newPair(t, roomy(), row("z", "0", 1))
		p.play(0, begin(full), get("z"), insert("a", "1"))
		if !commits {
			p.play(2, begin(si), update("z", "1"), commit())
		}
		p.begin(0, commit())
		for range 5 {
			p.goOn(0)
		}
		p.play(1, begin(si), insert("q", ""), get("a"))
		p.begin(1, commit())
		for range 30 {
			if p.goOn(1) {
				t.Fatal("P10.9: it does not wait")
			}
		}
		rows, log := len(p.Rows()), len(p.Commits(0))
		for !p.goOn(0) {
		}
		for !p.goOn(1) {
		}
		a, b := p.end(0), p.end(1)
		if commits {
			want(t, "P10.9: it waits", []any{a.Code, b.Code, a.Stamp < b.Stamp, len(p.Rows()), len(p.Commits(0))}, []any{api.OK, api.OK, true, rows + 2, log + 2})
		} else {
			want(t, "P10.9: it waits", []any{a, b, len(p.Rows()), len(p.Commits(0))}, []any{refused(api.ErrRead), refused(api.ErrCascade), rows, log})
		}
		p.leave()
	}
}
