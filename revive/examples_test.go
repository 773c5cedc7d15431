package revive_test

import (
	"testing"

	"strata/api"
	"strata/redo"
	"strata/revive"
)

// opened gives a device with a log that has these commits.
func opened(t *testing.T, cs ...api.Commit) (*redo.Device, *redo.Log) {
	t.Helper()
	d := device(t)
	l, _, e := redo.Open(d, api.LogOptions{Segment: 256, Batch: 4})
	ok(t, "Open", e)
	durable(t, l, cs...)
	return d, l
}

// durable appends commits, and syncs them.
func durable(t *testing.T, l *redo.Log, cs ...api.Commit) {
	t.Helper()
	for _, c := range cs {
		_, e := l.Append(c)
		ok(t, "Append", e)
	}
	_, e := l.Sync()
	ok(t, "Sync", e)
}

// The chapter's examples 1 to 6.
func TestExamplesOfRecovery(t *testing.T) {
	s, e := revive.Recover(device(t), 4)
	want(t, "example 1", []any{s, e}, []any{api.State{Next: 1}, api.OK})

	d, _ := opened(t, three()...)
	recovers(t, "example 2", d, api.State{Rows: []api.Row{row("b", "y", 2)}, Clock: 5, Next: 4, Played: 3})
	stood(t, "example 2", d, 3, row("a", "x", 3), row("b", "y", 2))
	stood(t, "example 2", d, 2, row("b", "y", 2))
	stood(t, "example 2", d, 0)

	late, _ := opened(t, commit(7, put("a", "late")), commit(4, put("a", "early")))
	recovers(t, "example 3", late, api.State{Rows: []api.Row{row("a", "late", 7)}, Clock: 7, Next: 3, Played: 2})

	lay(t, d, checkpoint(t, 3, three()...)...)
	recovers(t, "example 4", d, api.State{Rows: []api.Row{row("b", "y", 2)}, Clock: 5, Upto: 3, Next: 4, Played: 1})
	rows, e := revive.AsOf(d, 2, 2)
	want(t, "example 4", []any{rows == nil, e}, []any{true, api.ErrStale})

	refuses(t, "example 5", laid(t, log(4, three()...)), api.ErrStale)
	refuses(t, "example 5: a mark 5", laid(t, behind(log(4, three()...), mark(7, 5)), checkpoint(t, 3, three()...)), api.ErrStale)

	for _, workers := range []int{0, 17} {
		s, e := revive.Recover(d, workers)
		want(t, "example 6", []any{s, e}, []any{api.State{}, api.ErrWorkers})
	}
	s, e = revive.Recover(nil, 0)
	want(t, "example 6", []any{s, e}, []any{api.State{}, api.ErrNil})
}

// Example 7.
func TestExampleOfStandby(t *testing.T) {
	d, l := opened(t, three()[:2]...)
	s := revive.NewStandby()
	catches(t, "example 7", s, d, 2, api.OK)
	stands(t, "example 7", s, 2, 3, row("a", "x", 3), row("b", "y", 2))
	durable(t, l, three()[2])
	catches(t, "example 7", s, d, 1, api.OK)
	stands(t, "example 7", s, 3, 5, row("b", "y", 2))
	other, _ := opened(t, three()[:2]...)
	catches(t, "example 7", s, other, 0, api.ErrFork)
	stands(t, "example 7", s, 3, 5, row("b", "y", 2))
}

// Example 8.
func TestExampleOfScrub(t *testing.T) {
	whole := data(1, three()...)
	torn := segment(1, 1, whole[:len(whole)/2])
	first := checkpoint(t, 3, three()...)[0]
	first.Bytes = first.Bytes[:12] + string([]byte{first.Bytes[12] ^ 1}) + first.Bytes[13:]
	d := laid(t, []api.File{{Name: "notes", Bytes: "n"}, torn, first})
	for workers := 1; workers <= api.MaxWorkers; workers++ {
		list, e := revive.Scrub(d, workers)
		want(t, "example 8", []any{list, e}, []any{[]api.FileReport{
			report("data-00000001", 2, api.ErrSum, 0, false),
			report("log-000001", 1, api.OK, api.TailTorn, true),
			report("notes", 0, api.OK, 0, false),
		}, api.OK})
	}
}
