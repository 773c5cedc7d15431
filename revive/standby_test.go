package revive_test

import (
	"fmt"
	"strings"
	"testing"

	"strata/api"
	"strata/redo"
	"strata/revive"
)

// catches holds Catch against how many it should play, and its error.
func catches(t *testing.T, what string, s *revive.Standby, d *redo.Device, n int, e api.Errno) {
	t.Helper()
	before := shown(s)
	k, f := s.Catch(d)
	want(t, "P13.8: "+what, []any{k, f}, []any{n, e})
	if e != api.OK || n == 0 {
		want(t, "P13.8: nothing has changed: "+what, shown(s), before)
	}
}

// stands holds what a standby tells against what it should.
func stands(t *testing.T, what string, s *revive.Standby, at, clock uint64, rows ...api.Row) {
	t.Helper()
	want(t, "P13.9: "+what, []any{s.Rows(), s.At(), s.Clock()}, []any{rows, at, clock})
}

// shown tells all that a standby shows.
func shown(s *revive.Standby) string {
	return fmt.Sprintf("%+v at %d, clock %d", s.Rows(), s.At(), s.Clock())
}

// P13.7, P13.9: a new standby, and none.
func TestNewStandby(t *testing.T) {
	s := revive.NewStandby()
	if s == nil {
		t.Fatal("P13.7: no standby")
	}
	stands(t, "a new one", s, 0, 0)
	stands(t, "none", nil, 0, 0)
	stands(t, "one that NewStandby did not make", new(revive.Standby), 0, 0)
	catches(t, "an empty device", s, device(t), 0, api.OK)
	catches(t, "an empty log", s, laid(t, log(1)), 0, api.OK)
	catches(t, "marks alone", s, laid(t, behind(log(1), mark(1, 7))), 0, api.OK)
	stands(t, "nothing was played", s, 0, 0)
	if revive.NewStandby() == revive.NewStandby() {
		t.Error("P13.7: one standby twice")
	}
}

// P13.8: wrong inputs.
func TestErrorsOfCatch(t *testing.T) {
	d := laid(t, log(1, three()...))
	for _, s := range []*revive.Standby{nil, new(revive.Standby)} {
		n, e := s.Catch(d)
		want(t, "P13.8: no standby", []any{n, e}, []any{0, api.ErrNil})
		for _, d := range none(t) {
			n, e := s.Catch(d)
			want(t, "P13.8: neither", []any{n, e}, []any{0, api.ErrNil})
		}
	}
	s := revive.NewStandby()
	catches(t, "ahead", s, d, 3, api.OK)
	for _, d := range none(t) {
		catches(t, "no device", s, d, 0, api.ErrNil)
	}
	stands(t, "behind all that", s, 3, 5, row("b", "y", 2))
}

// story is a log of ten commits in which stamps rise and fall, and keys are put and deleted.
func story() []api.Commit {
	return []api.Commit{
		commit(5, put("a", "5"), put("b", "5")),
		commit(3, put("a", "3"), put("c", "3")),
		commit(9, del("a")),
		commit(7, put("a", "7"), del("b")),
		commit(9, put("a", "9 again")),
		commit(6, put("b", "6")),
		commit(8, put("b", "8"), put("d", "8")),
		commit(12, del("a"), del("d")),
		commit(11, put("a", "11"), put("d", "11"), put("e", "11")),
		commit(12, put("d", "12")),
	}
}

// P13.8: a standby that catches up in pieces stands behind each as if it had played one log, and keeps the deleted keys' stamps.
func TestCatchInPieces(t *testing.T) {
	cs := story()
	for cut := uint(0); cut < 1<<len(cs); cut++ {
		s := revive.NewStandby()
		at, clock := 0, uint64(0)
		for i := range cs {
			if cut>>i&1 == 0 && i < len(cs)-1 {
				continue
			}
			catches(t, fmt.Sprintf("pieces %b", cut), s, laid(t, log(1, cs[:i+1]...)), i+1-at, api.OK)
			at = i + 1
			for _, c := range cs[:at] {
				clock = max(clock, c.Stamp)
			}
			stands(t, fmt.Sprintf("pieces %b, at %d", cut, at), s, uint64(at), clock, plainPlay(nil, cs[:at])...)
		}
		if t.Failed() {
			return
		}
	}
}

// P13.8: the log of one device, of another with the same commits in other segments, and of one whose front was trimmed are the same log.
func TestCatchFromOthers(t *testing.T) {
	cs := story()
	for n := range cs {
		for first := 1; first <= n+1; first++ {
			s := revive.NewStandby()
			if n > 0 {
				catches(t, "the front", s, laid(t, log(1, cs[:n]...)), n, api.OK)
			}
			what := fmt.Sprintf("at %d, from %d on", n, first)
			d := laid(t, log(uint64(first), cs[first-1:]...))
			catches(t, what, s, d, len(cs)-n, api.OK)
			stands(t, what, s, 10, 12, plainPlay(nil, cs)...)
			catches(t, what+", again", s, d, 0, api.OK)
		}
	}
}

// P13.8: ErrStale, where the log begins behind At + 1.
func TestCatchStale(t *testing.T) {
	cs := story()
	for n := range 4 {
		s := revive.NewStandby()
		if n > 0 {
			catches(t, "the front", s, laid(t, log(1, cs[:n]...)), n, api.OK)
		}
		for _, first := range []int{n + 2, n + 3, n + 5} {
			what := fmt.Sprintf("at %d, from %d on", n, first)
			catches(t, what, s, laid(t, log(uint64(first), cs[first-1:]...)), 0, api.ErrStale)
			catches(t, what+", no commit", s, laid(t, log(uint64(first))), 0, api.ErrStale)
			// a checkpoint that has what is missing is not looked at
			catches(t, what+", a checkpoint", s, laid(t, log(uint64(first), cs[first-1:]...), checkpoint(t, 5, cs[0], cs[1])), 0, api.ErrStale)
		}
		catches(t, "no commit, and none is missing", s, laid(t, log(uint64(n+1))), 0, api.OK)
		catches(t, "the last number", s, laid(t, log(api.MaxTime)), 0, api.ErrStale)
	}
}

// P13.8: ErrFork, where the log is shorter than what was played, or tells another commit under the last number.
func TestCatchFork(t *testing.T) {
	cs := story()
	for n := 1; n <= len(cs); n++ {
		s := revive.NewStandby()
		catches(t, "the front", s, laid(t, log(1, cs[:n]...)), n, api.OK)
		for k := range n {
			catches(t, fmt.Sprintf("at %d, a log of %d", n, k), s, laid(t, log(1, cs[:k]...)), 0, api.ErrFork)
			catches(t, fmt.Sprintf("at %d, no commit, next %d", n, k+1), s, laid(t, log(uint64(k+1))), 0, api.ErrFork)
		}
		catches(t, "an empty device", s, device(t), 0, api.ErrFork)
		for what, c := range map[string]api.Commit{
			"stamp":        {Stamp: cs[n-1].Stamp + 1, Writes: cs[n-1].Writes},
			"more":         {Stamp: cs[n-1].Stamp, Writes: append(append([]api.Write{}, cs[n-1].Writes...), put("zz", ""))},
			"another kind": {Stamp: cs[n-1].Stamp, Writes: []api.Write{put(cs[n-1].Writes[0].Key, "other")}},
		} {
			other := append(append(append([]api.Commit{}, cs[:n-1]...), c), cs[n:]...)
			catches(t, fmt.Sprintf("at %d, another commit: %s", n, what), s, laid(t, log(1, other...)), 0, api.ErrFork)
			catches(t, fmt.Sprintf("at %d, another commit, the first: %s", n, what), s, laid(t, log(uint64(n), other[n-1:]...)), 0, api.ErrFork)
			catches(t, fmt.Sprintf("at %d, another commit, the last: %s", n, what), s, laid(t, log(1, other[:n]...)), 0, api.ErrFork)
			if n > 1 { // only the last one is held against the log
				ahead := append([]api.Commit{}, cs...)
				ahead[n-2] = c
				catches(t, fmt.Sprintf("at %d, another commit ahead: %s", n, what), s, laid(t, log(1, ahead[:n]...)), 0, api.OK)
			}
		}
	}
}

// P13.8 on a log that goes on, is trimmed, opened again and cut by a crash.
func TestCatchALog(t *testing.T) {
	cs := story()
	d, l := opened(t, cs[:4]...)
	s, late := revive.NewStandby(), revive.NewStandby()
	catches(t, "the first four", s, d, 4, api.OK)
	_, e := l.Append(cs[4])
	ok(t, "Append", e)
	catches(t, "what is in the buffer is not in the log", s, d, 0, api.OK)
	ok(t, "Flush", l.Flush())
	catches(t, "what is flushed is", s, d, 1, api.OK)
	ok(t, "Crash", d.Crash(0))
	catches(t, "behind a crash that kept nothing of it", s, d, 0, api.ErrFork)
	l, _, e = redo.Open(d, api.LogOptions{Segment: 256, Batch: 1})
	ok(t, "Open", e)
	catches(t, "opened again", s, d, 0, api.ErrFork)
	durable(t, l, cs[5])
	catches(t, "another commit has its number", s, d, 0, api.ErrFork)
	catches(t, "one that was behind", late, d, 5, api.OK)
	stands(t, "one that was behind", late, 5, 9, plainPlay(nil, append(cs[:4:4], cs[5]))...)
	ok(t, "Mark", l.Mark(9))
	catches(t, "a mark", late, d, 0, api.OK)
	durable(t, l, cs[6:]...)
	n, e := l.Trim(5)
	want(t, "Trim", []any{n > 0, e}, []any{true, api.OK})
	catches(t, "from the first on, of a log that was trimmed", revive.NewStandby(), d, 0, api.ErrStale)
	catches(t, "one that was behind, of a log that was trimmed", late, d, 4, api.OK)
	stands(t, "one that was behind", late, 9, 12, plainPlay(nil, append(append(cs[:4:4], cs[5]), cs[6:]...))...)

	// one of its own, trimmed down to its last segment
	d, l = opened(t, cs[:2]...)
	s = revive.NewStandby()
	catches(t, "two", s, d, 2, api.OK)
	long := put("a", strings.Repeat("x", 200))
	durable(t, l, commit(20, long))
	durable(t, l, commit(21, long))
	_, e = l.Trim(api.MaxTime)
	ok(t, "Trim", e)
	logged, _, _ := redo.Replay(d)
	want(t, "what is left", []any{len(logged), logged[0].Lsn}, []any{1, 4})
	catches(t, "a commit is missing", s, d, 0, api.ErrStale)
	stands(t, "as it was", s, 2, 5, row("a", "5", 5), row("b", "5", 5), row("c", "3", 3))
}
