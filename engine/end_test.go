package engine_test

import (
	"fmt"
	"strings"
	"testing"

	"strata/api"
)

func TestCommit(t *testing.T) {
	w := open(t, roomy(), row("z", "0", 1))
	w.do(0, begin(si))
	want(t, "P10.9: nothing was done", w.answers("P10.9", 0, commit(), stamped(12)), ts(1+1+3+1+1+closing+quitGo))
	want(t, "P10.9: its record is free", []any{w.Open(0), w.Base().Tx.Live(), w.Base().Tx.Waiting()}, []any{false, []int{}, 0})
	w.do(0, begin(si), insert("a", "1"))
	want(t, "P10.9: one was made", w.answers("P10.9", 0, commit(), stamped(14)), ts(1+1+3+1)+"g"+ts(1+closing)+"c"+ts(leaving))
	want(t, "P10.9: its record waits", []any{w.Open(0), w.Base().Tx.Live(), w.Base().Tx.Waiting()}, []any{false, []int{2}, 1})
	w.do(0, begin(si), remove("a"))
	want(t, "P10.9: one was taken", w.answers("P10.9", 0, commit(), stamped(16)), ts(1+1+3+1)+"g"+ts(1+closing)+"c"+ts(leaving))
	w.do(0, begin(si))
	w.code("P10.9", 0, insert("z", "1"), api.ErrDuplicate)
	want(t, "P10.9: one was given up", w.answers("P10.9", 0, commit(), stamped(18)), ts(1+1+3+1+1+closing+leaving))
	w.do(0, begin(si), insert("b", "1"), update("b", "2"), remove("b"))
	want(t, "P10.9: nothing is left", w.answers("P10.9", 0, commit(), stamped(20)), ts(1+1+3+1+1+closing)+"cccc"+ts(leaving))
	want(t, "P10.9: Commits", len(w.Commits(0)), 2)
}

// What the check costs, by level.
func TestCommitThatChecks(t *testing.T) {
	for _, c := range []struct {
		what  string
		iso   int
		calls []api.Call
		check string
	}{
		{"nothing seen", full, nil, ""},
		{"as ReadCommitted", rc, []api.Call{get("a"), get("b"), scan("", "")}, ""},
		{"as Snapshot", si, []api.Call{get("a"), get("b"), scan("", "")}, ""},
		{"a version, as RepeatableRead", rr, []api.Call{get("a"), get("a")}, "c" + "cc"},
		{"a range, as RepeatableRead", rr, []api.Call{get("b")}, ""},
		{"a range, as Serializable", full, []api.Call{get("b"), get("b"), scan("b", "b\x00")}, "ooo" + "oc"},
		{"a version and a range", full, []api.Call{scan("", "")}, "c" + "cc" + "oooo" + "c"},
	} {
		w := open(t, roomy(), row("a", "1", 1))
		w.do(0, begin(c.iso))
		for _, call := range c.calls {
			w.run(0, call)
		}
		want(t, "P10.9: "+c.what, w.answers("P10.9", 0, commit(), stamped(12)), ts(1+1+3)+c.check+ts(1+1+closing+quitGo))
	}
}

// What was read has changed, or something new is there: by level, and by what was looked at.
func TestCommitThatIsRefused(t *testing.T) {
	change := []api.Call{update("a", "9"), remove("c"), insert("b", "9")}
	for _, c := range []struct {
		look  api.Call
		codes [5]api.Errno // by level
	}{
		{get("a"), [5]api.Errno{rr: api.ErrRead, full: api.ErrRead}},
		{get("c"), [5]api.Errno{rr: api.ErrRead, full: api.ErrRead}},
		{insert("c", ""), [5]api.Errno{rr: api.ErrRead, full: api.ErrRead}},
		{get("d"), [5]api.Errno{}},
		{get("b"), [5]api.Errno{full: api.ErrPhantom}},
		{update("b", ""), [5]api.Errno{full: api.ErrPhantom}},
		{remove("b"), [5]api.Errno{full: api.ErrPhantom}},
		{get("a\x00"), [5]api.Errno{}},
		{scan("", "b"), [5]api.Errno{rr: api.ErrRead, full: api.ErrRead}},
		{scan("a\x00", "c"), [5]api.Errno{full: api.ErrPhantom}},
		{scan("a\x00", "b"), [5]api.Errno{}},
		{scan("b\x00", "c"), [5]api.Errno{}},
		{scan("d", ""), [5]api.Errno{}},
		{scan("", ""), [5]api.Errno{rr: api.ErrRead, full: api.ErrRead}},
	} {
		for iso := rc; iso <= full; iso++ {
			w := open(t, roomy(), row("a", "1", 1), row("c", "1", 1), row("d", "1", 1))
			w.do(0, begin(iso), insert("e", "1"))
			w.run(0, c.look)
			w.do(1, begin(si))
			w.do(1, change...)
			w.do(1, commit())
			made := w.code(fmt.Sprintf("P10.9: level %d, %+v", iso, c.look), 0, commit(), c.codes[iso])
			want(t, "P10.9: Open", w.Open(0), false)
			want(t, "P10.9: the log", len(w.Commits(0)), map[bool]int{true: 2, false: 1}[c.codes[iso] == api.OK])
			if c.codes[iso] != api.OK {
				want(t, "P10.10: accesses", strings.HasSuffix(made, undoing(1)), true)
			}
		}
	}
}

func TestAbort(t *testing.T) {
	w := open(t, roomy(), row("a", "1", 1), row("b", "2", 1))
	w.do(0, begin(si))
	want(t, "P10.10: nothing was done", w.answers("P10.10", 0, abort(), api.Answer{}), undoing(0))
	want(t, "P10.10: its record waits all the same", []any{w.Open(0), w.Base().Tx.Waiting()}, []any{false, 1})
	w.do(0, begin(full), update("a", "3"), remove("b"), insert("c", "4"))
	want(t, "P10.10: two were made, two taken", w.answers("P10.10", 0, abort(), api.Answer{}), undoing(4))
	want(t, "P10.10: all is as it was", []any{w.Rows(), len(w.Commits(0)), w.wordsOf(1), w.wordsOf(2), w.wordsOf(3), w.wordsOf(4)}, []any{[]api.Row{row("a", "1", 1), row("b", "2", 1)}, 0, [2]uint64{1, api.Infinity}, [2]uint64{1, api.Infinity}, [2]uint64{api.Infinity, api.Infinity}, [2]uint64{api.Infinity, api.Infinity}})
	w.do(0, begin(full), update("a", "3"), remove("b"), insert("c", "4"), commit())
}

// The last words are written in the order in which the versions were made, and taken: slots that were freed come again in another order than that of their numbers.
func TestOrderOfTheLastWords(t *testing.T) {
	w := open(t, api.Config{Slots: 6, Buckets: 3, TxSlots: 8, Sessions: 1}, row("a", "", 0), row("b", "", 0), row("c", "", 0), row("d", "", 0), row("e", "", 0), row("q", "", 0))
	w.do(0, begin(si), remove("e"), remove("b"), remove("q"), remove("c"))
	slots := map[string]int{}
	for slot, entry := range w.Base().Cells.All() {
		slots[entry.Name] = slot
	}
	var ended []int
	w.start(0, commit())
	for w.Busy(0) {
		w.step(0)
		for _, key := range []string{"b", "c", "e", "q"} {
			if slot := slots[key]; slot != 0 && w.wordsOf(slot)[1] == 2 {
				ended = append(ended, slot)
				slots[key] = 0
			}
		}
	}
	want(t, "P10.9: in the order of the taking", ended, []int{5, 2, 6, 3})
	w.take(0)
	w.do(0, collect(3), collect(3))
	w.do(0, begin(si), insert("x", ""), insert("y", ""), insert("z", ""), insert("h", ""))
	var made []int
	for _, key := range []string{"x", "y", "z", "h"} {
		for slot, entry := range w.Base().Cells.All() {
			if entry.Name == key {
				made = append(made, slot)
			}
		}
	}
	if fmt.Sprint(made) == "[2 3 5 6]" {
		t.Error("this test needs slots in another order than that of their numbers")
	}
	var begun []int
	w.start(0, commit())
	for w.Busy(0) {
		w.step(0)
		for i, slot := range made {
			if slot != 0 && w.wordsOf(slot)[0] <= api.MaxTime {
				begun = append(begun, slot)
				made[i] = 0
			}
		}
	}
	w.take(0)
	right := []int{}
	for _, key := range []string{"x", "y", "z", "h"} {
		for slot, entry := range w.Base().Cells.All() {
			if entry.Name == key {
				right = append(right, slot)
			}
		}
	}
	want(t, "P10.9: in the order of the making", begun, right)
}

func put(key, data string) api.Write { return api.Write{Kind: api.WritePut, Key: key, Data: data} }
func del(key string) api.Write       { return api.Write{Kind: api.WriteDelete, Key: key} }

func TestNetWrites(t *testing.T) {
	for _, c := range []struct {
		what  string
		calls []api.Call
		right []api.Write
	}{
		{"nothing", nil, nil},
		{"reads", []api.Call{get("a"), scan("", ""), get("x")}, nil},
		{"an insert", []api.Call{insert("x", "1")}, []api.Write{put("x", "1")}},
		{"an insert of no data", []api.Call{insert("x", "")}, []api.Write{put("x", "")}},
		{"an update", []api.Call{update("a", "1")}, []api.Write{put("a", "1")}},
		{"an update to what it was", []api.Call{update("a", "0")}, []api.Write{put("a", "0")}},
		{"a delete", []api.Call{remove("a")}, []api.Write{del("a")}},
		{"two updates", []api.Call{update("a", "1"), update("a", "2")}, []api.Write{put("a", "2")}},
		{"an insert that is updated", []api.Call{insert("x", "1"), update("x", "2"), update("x", "3")}, []api.Write{put("x", "3")}},
		{"an insert that is deleted", []api.Call{insert("x", "1"), remove("x")}, nil},
		{"an insert that is updated and deleted", []api.Call{insert("x", "1"), update("x", "2"), remove("x")}, nil},
		{"an insert that is deleted and inserted", []api.Call{insert("x", "1"), remove("x"), insert("x", "2")}, []api.Write{put("x", "2")}},
		{"an update that is deleted", []api.Call{update("a", "1"), remove("a")}, []api.Write{del("a")}},
		{"a delete that is inserted", []api.Call{remove("a"), insert("a", "1")}, []api.Write{put("a", "1")}},
		{"a delete that is inserted and deleted", []api.Call{remove("a"), insert("a", "1"), remove("a")}, []api.Write{del("a")}},
		{"a duplicate", []api.Call{insert("a", "1")}, nil},
		{"a duplicate of its own", []api.Call{insert("x", "1"), insert("x", "2")}, []api.Write{put("x", "1")}},
		{"many, by key", []api.Call{insert("x", "1"), remove("c"), update("a", "2"), insert("aa", "3"), insert("y", "4"), remove("y"), update("b", "5"), remove("b"), insert("\xff", "6"), insert("\x00", "7")}, []api.Write{put("\x00", "7"), put("a", "2"), put("aa", "3"), del("b"), del("c"), put("x", "1"), put("\xff", "6")}},
	} {
		for iso := rc; iso <= full; iso++ {
			w := open(t, roomy(), row("a", "0", 1), row("b", "0", 1), row("c", "0", 1))
			w.do(0, begin(iso))
			for _, call := range c.calls {
				w.run(0, call)
			}
			w.answers("P10.11", 0, commit(), stamped(12))
			var right []api.Commit
			if c.right != nil {
				right = []api.Commit{{Stamp: 12, Writes: c.right}}
			}
			want(t, "P10.11: "+c.what, w.Commits(0), right)
			w.do(0, begin(iso))
			for _, call := range c.calls {
				w.run(0, call)
			}
			w.do(0, abort())
			want(t, "P10.11: "+c.what+", aborted", w.Commits(0), right)
		}
	}
}

// A transaction on which as many depend as may: one more ends by abort.
func TestTooManyDependents(t *testing.T) {
	c := roomy()
	c.Sessions, c.Slots = 12, 20
	p := newPair(t, c)
	defer p.leave()
	p.play(0, begin(si), insert("a", "1"))
	p.begin(0, commit())
	for range 5 {
		p.goOn(0)
	}
	for s := 1; s <= api.MaxDeps; s++ {
		want(t, "P10.8: it depends", p.play(s, begin(si), get("a"), get("a"))[2], told(pair("a", "1")))
	}
	want(t, "P10.8: one more", p.play(9, begin(si), get("a"))[1], refused(api.ErrDeps))
	want(t, "P10.8: one more, in a scan", p.play(9, begin(si), scan("", ""))[1], refused(api.ErrDeps))
	want(t, "P10.8: one more, in an insert", p.play(10, begin(si), insert("a", ""))[1], refused(api.ErrDeps))
	want(t, "P10.8: Open", []bool{p.Open(8), p.Open(9), p.Open(10)}, []bool{true, false, false})
	for !p.goOn(0) {
	}
	p.end(0)
	for s := 1; s <= api.MaxDeps; s++ {
		want(t, "P10.9: they commit", p.play(s, commit())[0].Code, api.OK)
	}
}
