package engine_test

import (
	"testing"

	"strata/api"
)

// The chapter's examples, in their order.
func TestExamples(t *testing.T) {
	w := open(t, size())
	// 1
	want(t, "example 1: begin", w.answers("example 1", 0, begin(si), stamped(1)), "ttttt")
	want(t, "example 1: get", w.answers("example 1", 0, get("a"), refused(api.ErrNotFound)), "th")
	w.answers("example 1", 0, insert("a", "x"), api.Answer{})
	w.answers("example 1", 0, get("a"), told(pair("a", "x")))
	w.answers("example 1", 0, commit(), stamped(2))
	want(t, "example 1: Commits", w.Commits(0), []api.Commit{{Stamp: 2, Writes: []api.Write{{Kind: api.WritePut, Key: "a", Data: "x"}}}})
	want(t, "example 1: Rows", w.Rows(), []api.Row{row("a", "x", 2)})
	// 2
	w.answers("example 2", 0, begin(si), stamped(3))
	w.answers("example 2", 1, begin(si), stamped(4))
	w.answers("example 2", 0, update("a", "y"), api.Answer{})
	w.answers("example 2", 1, get("a"), told(pair("a", "x")))
	w.answers("example 2", 1, update("a", "z"), refused(api.ErrConflict))
	want(t, "example 2: Open", []bool{w.Open(0), w.Open(1)}, []bool{true, false})
	w.answers("example 2", 0, commit(), stamped(5))
	// 3
	w.answers("example 3", 1, begin(rc), stamped(6))
	w.answers("example 3", 0, begin(si), stamped(7))
	w.answers("example 3", 0, remove("a"), api.Answer{})
	w.answers("example 3", 0, commit(), stamped(8))
	w.answers("example 3", 1, get("a"), refused(api.ErrNotFound))
	w.answers("example 3", 1, insert("a", "w"), api.Answer{})
	w.answers("example 3", 1, scan("", ""), told(pair("a", "w")))
	w.answers("example 3", 1, commit(), stamped(9))
	want(t, "example 3: Commits", w.Commits(2), []api.Commit{{Stamp: 8, Writes: []api.Write{{Kind: api.WriteDelete, Key: "a"}}}, {Stamp: 9, Writes: []api.Write{{Kind: api.WritePut, Key: "a", Data: "w"}}}})
	// 4, behind a collect: there are eight slots
	w.do(0, collect(1), collect(1))
	w.do(0, begin(si), insert("b", "1"), remove("b"), insert("b", "2"), update("b", "3"), commit())
	want(t, "example 4: Commits", w.Commits(4), []api.Commit{{Stamp: 13, Writes: []api.Write{{Kind: api.WritePut, Key: "b", Data: "3"}}}})
	// 5
	w.do(0, collect(1), collect(1))
	w.do(0, begin(si), insert("c", "1"), remove("c"))
	w.start(0, commit())
	made := w.rest(0)
	want(t, "example 5: the last steps are those of Leave, not of Quit", made[len(made)-6:], "cctttt")
	w.take(0)
	want(t, "example 5: Commits", len(w.Commits(5)), 0)
	// 7
	free, limbo := w.Free()
	a, _ := w.run(0, collect(1))
	now, then := w.Free()
	want(t, "example 7: what is unlinked", []int{a.Count, now, then}, []int{1, free, limbo + 1})
	w.do(0, collect(1))
	_, then = w.Free()
	want(t, "example 7: the limbo", then, 0)
	// 8
	w.do(0, begin(si))
	w.answers("example 8", 0, insert("a", "q"), refused(api.ErrDuplicate))
	want(t, "example 8: Open", w.Open(0), true)
	w.start(0, commit())
	made = w.rest(0)
	want(t, "example 8: the last steps are those of Leave, not of Quit", made[len(made)-4:], "tttt")
	want(t, "example 8: Commits", len(w.Commits(5)), 0)
	want(t, "example 8: what waits", w.Base().Tx.Waiting() > 0, true)
}

// Example 3's other half: under Snapshot it would be "y".
func TestExampleOfASnapshot(t *testing.T) {
	w := open(t, size(), row("a", "y", 0))
	w.do(1, begin(si))
	w.do(0, begin(si), remove("a"), commit())
	w.answers("example 3", 1, get("a"), told(pair("a", "y")))
}

func TestExampleOfRefusals(t *testing.T) {
	w := open(t, size())
	want(t, "example 6: no transaction", w.Start(0, get("a")), api.ErrNoTx)
	want(t, "example 6: Iso 5", w.Start(0, begin(5)), api.ErrArg)
	want(t, "example 6: session 2", w.Start(2, begin(si)), api.ErrSession)
	_, e := w.Take(0)
	want(t, "example 6: Take", e, api.ErrState)
	w.do(0, begin(si))
	want(t, "example 6: no key", w.Start(0, get("")), api.ErrKey)
	w.start(0, get("a"))
	want(t, "example 6: two Starts", w.Start(0, get("a")), api.ErrBusy)
}
