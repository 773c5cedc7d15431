package redo_test

import (
	"testing"

	"strata/api"
	"strata/redo"
)

// The chapter's examples 1 to 3.
func TestExamplesOfBytes(t *testing.T) {
	s, e := redo.EncodeCommit(commit(5, put("a", "xy"), del("b")))
	want(t, "example 1", []any{s, e}, []any{"\x05\x02\x01\x01\x61\x02\x78\x79\x02\x01\x62", api.OK})
	for i, c := range []api.Commit{commit(5, api.Write{Kind: 2, Key: "b", Data: "x"}), commit(5, put("b", ""), put("a", "")), commit(5, put("a", ""), put("a", "")), commit(0, put("a", "")), commit(5)} {
		s, e := redo.EncodeCommit(c)
		want(t, "example 2", []any{i, s, e}, []any{i, "", api.ErrRecord})
	}
	s, e = redo.EncodeCommit(commit(5, put("a", "")))
	want(t, "example 2", []any{s, e}, []any{"\x05\x01\x01\x01\x61\x00", api.OK})
	s, e = redo.EncodeFrame(api.Frame{Kind: api.FrameEnd, Lsn: 7})
	want(t, "example 3", []any{s[:20], len(s), e}, []any{"\x53\x46\x03\x00\x00\x00\x00\x00\x07\x00\x00\x00\x00\x00\x00\x00\x00\x00\x00\x00", 24, api.OK})
}

// 4 to 6.
func TestExamplesOfCrashes(t *testing.T) {
	d := device(t, 1000)
	ok(t, "example 4", d.Create("a"), d.Append("a", "hello"), d.Crash(0))
	want(t, "example 4", len(d.List()), 0)
	ok(t, "example 4", d.Create("a"), d.SyncDir(), d.Append("a", "hello"), d.Crash(0, 3))
	want(t, "example 4", read(t, d, "a"), "hel")
	for changes, right := range map[int]string{2: "cur", 1: "t"} {
		d = device(t, 1000)
		ok(t, "example 5", d.Create("t"), d.Append("t", "new"), d.Sync("t"), d.Rename("t", "cur"), d.Crash(changes))
		want(t, "example 5", names(d)+read(t, d, right), right+"new")
	}
	d = device(t, 1000)
	lay(t, d, "a", "abc", 3)
	ok(t, "example 6", d.SyncDir(), d.Cut(1), d.Append("a", "x"))
	want(t, "example 6", []any{d.Append("a", "y"), d.Create("b"), read(t, d, "a")}, []any{api.ErrPower, api.ErrPower, "abcx"})
	ok(t, "example 6", d.Crash(0))
	want(t, "example 6", read(t, d, "a"), "abc")
	ok(t, "example 6", d.Append("a", "z"))
}

// 7 to 10.
func TestExamplesOfLogs(t *testing.T) {
	o := api.LogOptions{Segment: 256, Batch: 4}
	d := device(t, 1000)
	l, tail, e := redo.Open(d, o)
	want(t, "example 7", []any{tail, e, size(d, "log-000001")}, []any{api.Tail{Kind: api.TailClean, Next: 1}, api.OK, 24})
	n, e := l.Append(c1())
	want(t, "example 7", []any{n, e}, []any{1, api.OK})
	list, e := l.Sync()
	want(t, "example 7", []any{list, e}, []any{[]uint64{1}, api.OK})
	_, tail, e = redo.Open(d, o)
	want(t, "example 7", []any{tail, e, names(d)}, []any{api.Tail{Segment: 1, Offset: 24 + len(data(1, c1())), Next: 2}, api.OK, "1 2"})
	for keep, right := range map[int]api.Tail{0: {Segment: 1, Offset: 24, Next: 1}, 30: {Kind: api.TailTorn, Segment: 1, Offset: 24, Next: 1}} {
		d = device(t, 1000)
		l = open(t, d, o)
		append1(t, l, c1())
		ok(t, "examples 8, 9", l.Flush(), d.Crash(0, keep))
		commits, _, tail := redo.Replay(d)
		want(t, "examples 8, 9", []any{len(commits), tail, size(d, "log-000001")}, []any{0, right, 24 + keep})
	}
	d = device(t, 1000)
	open(t, d, o)
	open(t, d, o)
	want(t, "example 10", names(d), "2")
}
