package engine_test

import (
	"fmt"
	"strings"
	"testing"

	"strata/api"
)

// refuses looks at a Start that is refused and changes nothing.
func (w *world) refuses(what string, s int, c api.Call, e api.Errno) {
	w.t.Helper()
	old, inside := w.count(), dump(w.Engine)
	want(w.t, fmt.Sprintf("P10.2: %s: Start(%d, %+.60v)", what, s, c), w.Start(s, c), e)
	if dump(w.Engine) != inside || w.since(old) != "" {
		w.t.Errorf("P10.2: %s: a Start that is refused has changed something", what)
	}
}

func long(n int) string { return strings.Repeat("k", n) }

func TestStartRefuses(t *testing.T) {
	c := size()
	c.Buckets = 3
	w := open(t, c)
	key, data := long(api.MaxKey+1), strings.Repeat("d", api.MaxData+1)
	for _, s := range []int{-1, 2, 15, 1 << 62} {
		w.refuses("no session", s, api.Call{}, api.ErrSession)
		w.refuses("no session", s, begin(si), api.ErrSession)
	}
	for _, kind := range []int{-1, 0, 10, 1 << 40} {
		w.refuses("no kind", 0, api.Call{Kind: kind, Iso: 2, Key: "a", Count: 1}, api.ErrCall)
		w.refuses("no kind", 0, api.Call{Kind: kind, Iso: 9, Key: key, Count: 9}, api.ErrCall)
	}
	for _, iso := range []int{-1, 0, 5, 1 << 40} {
		w.refuses("no level", 0, begin(iso), api.ErrArg)
	}
	for _, n := range []int{-1, 0, 4, 1 << 40} {
		w.refuses("no count", 0, collect(n), api.ErrArg)
	}
	keyed := func() {
		t.Helper()
		for _, k := range []string{"", key} {
			w.refuses("no key", 0, get(k), api.ErrKey)
			w.refuses("no key", 0, insert(k, ""), api.ErrKey)
			w.refuses("no key", 0, update(k, ""), api.ErrKey)
			w.refuses("no key", 0, remove(k), api.ErrKey)
		}
		w.refuses("no data", 0, insert("a", data), api.ErrKey)
		w.refuses("no data", 0, update("a", data), api.ErrKey)
		w.refuses("no low", 0, scan(key, ""), api.ErrKey)
		w.refuses("no high", 0, scan("", key), api.ErrKey)
	}
	keyed()
	for _, c := range []api.Call{get("a"), insert("a", ""), update("a", ""), remove("a"), scan("", ""), commit(), abort()} {
		w.refuses("no transaction", 0, c, api.ErrNoTx)
	}
	w.do(0, begin(si))
	keyed()
	w.refuses("a transaction", 0, begin(si), api.ErrOpenTx)
	w.refuses("a transaction and no level", 0, begin(0), api.ErrArg)
	w.start(0, get("a"))
	for _, c := range []api.Call{get("a"), begin(0), get(""), {}, collect(1), commit()} {
		w.refuses("a call that is not begun", 0, c, api.ErrBusy)
	}
	w.steps(0, 1)
	w.refuses("a call that is not done", 0, api.Call{}, api.ErrBusy)
	w.rest(0)
	w.refuses("an answer that was not taken", 0, api.Call{}, api.ErrBusy)
	w.take(0)
	w.refuses("no kind again", 0, api.Call{}, api.ErrCall)
	w.refuses("another session", 1, get("a"), api.ErrNoTx)
}

// A call's other fields are not looked at; keys, data and bounds may be as long as they may.
func TestStartTakes(t *testing.T) {
	key, data, more := long(api.MaxKey), strings.Repeat("d", api.MaxData), strings.Repeat("d", api.MaxData+1)
	other := long(api.MaxKey + 1)
	w := open(t, roomy())
	w.answers("P10.2", 0, api.Call{Kind: api.CallBegin, Iso: full, Key: other, High: other, Data: more, Count: -1}, stamped(11))
	w.answers("P10.2", 0, api.Call{Kind: api.CallInsert, Iso: 9, Key: key, High: other, Data: data, Count: -1}, api.Answer{})
	w.answers("P10.2", 0, api.Call{Kind: api.CallGet, Iso: 9, Key: key, High: other, Data: more, Count: -1}, told(pair(key, data)))
	w.answers("P10.2", 0, api.Call{Kind: api.CallUpdate, Iso: 9, Key: key, High: other, Count: -1}, api.Answer{})
	w.answers("P10.2", 0, api.Call{Kind: api.CallScan, Iso: 9, Key: key, High: key, Data: more, Count: -1}, api.Answer{})
	w.answers("P10.2", 0, api.Call{Kind: api.CallScan, Iso: 9, Key: "", High: "", Data: more, Count: -1}, told(pair(key, "")))
	w.answers("P10.2", 0, api.Call{Kind: api.CallDelete, Iso: 9, Key: key, High: other, Data: more, Count: -1}, api.Answer{})
	w.answers("P10.2", 0, api.Call{Kind: api.CallCollect, Iso: 9, Key: other, High: other, Data: more, Count: 1}, api.Answer{})
	w.answers("P10.2", 0, api.Call{Kind: api.CallCommit, Iso: 9, Key: other, High: other, Data: more, Count: -1}, stamped(13))
	w.do(0, begin(rc))
	w.answers("P10.2", 0, api.Call{Kind: api.CallAbort, Iso: 9, Key: other, High: other, Data: more, Count: -1}, api.Answer{})
}

// A Start makes no step.
func TestStartMakesNoAccess(t *testing.T) {
	w := open(t, roomy(), row("a", "1", 3))
	for _, c := range []api.Call{collect(1), begin(rc), get("a"), insert("b", ""), update("a", ""), remove("a"), scan("", ""), commit(), begin(si), abort()} {
		old, rows, inside := w.count(), w.Rows(), dump(w.Base())
		open := w.Open(0)
		w.start(0, c)
		want(t, fmt.Sprintf("P10.2: behind Start(%+v)", c), []any{w.since(old), w.Rows(), w.Open(0), w.Busy(0), dump(w.Base()) == inside}, []any{"", rows, open, true, true})
		w.rest(0)
		w.take(0)
	}
}

func TestStep(t *testing.T) {
	w := open(t, size())
	for _, s := range []int{-1, 2, 1 << 40} {
		done, e := w.Step(s)
		ran, f := w.Run(s, 5)
		want(t, "P10.3: no session", []any{done, e, ran, f, w.Busy(s), w.Open(s)}, []any{false, api.ErrSession, false, api.ErrSession, false, false})
	}
	w.idle("a session without a call", 0)
	w.start(0, begin(si))
	for i := range 4 {
		made, done := w.step(0)
		want(t, fmt.Sprintf("P10.3: step %d of a begin", i+1), []any{made, done, w.Busy(0), w.Open(0)}, []any{"t", false, true, false})
	}
	made, done := w.step(0)
	want(t, "P10.3: the last step of a begin", []any{made, done, w.Busy(0), w.Open(0)}, []any{"t", true, false, true})
	w.idle("a call that is done", 0)
	w.idle("another session", 1)
	w.take(0)
	w.idle("a call that was taken", 0)
	// it has a transaction to the last step of the call that ends it
	w.start(0, abort())
	for w.Busy(0) {
		want(t, "P10.3: Open in the midst of an abort", w.Open(0), true)
		w.step(0)
	}
	want(t, "P10.3: Open behind an abort", w.Open(0), false)
	w.take(0)
}

// idle looks at a session whose steps do nothing.
func (w *world) idle(what string, s int) {
	w.t.Helper()
	old, inside := w.count(), dump(w.Engine)
	done, e := w.Step(s)
	ran, f := w.Run(s, 100)
	want(w.t, "P10.3: "+what, []any{done, e, ran, f, w.since(old), dump(w.Engine) == inside}, []any{true, api.OK, true, api.OK, "", true})
}

func TestRun(t *testing.T) {
	w := open(t, size())
	w.start(0, begin(si))
	for _, most := range []int{0, -1, -1 << 62} {
		old := w.count()
		done, e := w.Run(0, most)
		want(t, "P10.3: Run of no steps", []any{done, e, w.since(old)}, []any{false, api.OK, ""})
	}
	old := w.count()
	done, e := w.Run(0, 3)
	want(t, "P10.3: Run of three steps", []any{done, e, w.since(old), w.Open(0)}, []any{false, api.OK, "ttt", false})
	done, e = w.Run(0, 1)
	want(t, "P10.3: Run of one step", []any{done, e, w.since(old)}, []any{false, api.OK, "tttt"})
	done, e = w.Run(0, 1)
	want(t, "P10.3: Run of the last step", []any{done, e, w.since(old), w.Open(0)}, []any{true, api.OK, "ttttt", true})
	done, e = w.Run(0, 0)
	want(t, "P10.3: Run of a call that is done", []any{done, e}, []any{true, api.OK})
	w.take(0)
	done, e = w.Run(0, -5)
	want(t, "P10.3: Run without a call", []any{done, e}, []any{true, api.OK})
	old = w.count()
	w.start(0, get("a"))
	done, e = w.Run(0, 1<<62)
	want(t, "P10.3: Run of many steps", []any{done, e, w.since(old)}, []any{true, api.OK, "ht"})
}

func TestTake(t *testing.T) {
	w := open(t, size())
	for _, s := range []int{-1, 2, 1 << 40} {
		a, e := w.Take(s)
		want(t, "P10.4: no session", []any{a, e}, []any{api.Answer{}, api.ErrSession})
	}
	a, e := w.Take(0)
	want(t, "P10.4: no call", []any{a, e}, []any{api.Answer{}, api.ErrState})
	w.start(0, begin(si))
	for range 5 {
		inside := dump(w.Engine)
		a, e = w.Take(0)
		want(t, "P10.4: a call that is not done", []any{a, e, dump(w.Engine) == inside}, []any{api.Answer{}, api.ErrBusy, true})
		w.Step(0)
	}
	a, e = w.Take(0)
	want(t, "P10.4: an answer", []any{a, e}, []any{stamped(1), api.OK})
	a, e = w.Take(0)
	want(t, "P10.4: an answer that was taken", []any{a, e}, []any{api.Answer{}, api.ErrState})
}

func TestCalls(t *testing.T) {
	w := open(t, size())
	for _, s := range []int{-1, 2, 1 << 40} {
		for _, calls := range [][]api.Call{nil, {begin(si)}} {
			a, e := w.Calls(s, calls...)
			want(t, "P10.4: no session", []any{a, e}, []any{[]api.Answer{}, api.ErrSession})
		}
	}
	a, e := w.Calls(0)
	want(t, "P10.4: no calls", []any{a, e}, []any{[]api.Answer{}, api.OK})
	a, e = w.Calls(0, begin(si), insert("a", "x"), get("a"), get("b"), commit())
	want(t, "P10.4: calls", []any{a, e}, []any{[]api.Answer{stamped(1), {}, told(pair("a", "x")), refused(api.ErrNotFound), stamped(2)}, api.OK})
	a, e = w.Calls(0, begin(si), get("a"), begin(si), get("a"))
	want(t, "P10.4: one that is refused in the midst", []any{a, e, w.Open(0), w.Busy(0)}, []any{[]api.Answer{stamped(3), told(pair("a", "x"))}, api.ErrOpenTx, true, false})
	w.start(0, get("a"))
	a, e = w.Calls(0, get("a"))
	want(t, "P10.4: a call that is not done", []any{a, e, w.Busy(0)}, []any{[]api.Answer{}, api.ErrBusy, true})
	a, e = w.Calls(0)
	want(t, "P10.4: no calls, where one is not done", []any{a, e}, []any{[]api.Answer{}, api.OK})
	w.rest(0)
	a, e = w.Calls(0, get("a"))
	want(t, "P10.4: an answer that was not taken", []any{a, e}, []any{[]api.Answer{}, api.ErrBusy})
	want(t, "P10.4: it is still there", w.take(0), told(pair("a", "x")))
}

// A commit that waits for another session is stepped MaxRun times, and no more.
func TestCallsThatWait(t *testing.T) {
	w := open(t, roomy())
	w.do(0, begin(si), insert("a", "1"))
	w.start(0, commit())
	w.steps(0, 5)
	w.do(1, begin(si), get("a"))
	old := w.Accesses()
	a, e := w.Calls(1, get("a"), commit(), begin(si))
	want(t, "P10.4: a call that waits", []any{a, e, w.Busy(1), w.Open(1)}, []any{[]api.Answer{told(pair("a", "1"))}, api.ErrBusy, true, true})
	made := w.Accesses() - old
	if made < api.MaxRun || made > api.MaxRun+30 {
		t.Errorf("P10.4: it makes %d accesses", made)
	}
	w.rest(0)
	w.rest(1)
	want(t, "P10.4: both are done", []any{w.take(0), w.take(1)}, []any{stamped(12), stamped(14)})
}
