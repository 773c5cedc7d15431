package revive_test

import (
	"fmt"
	"testing"

	"strata/api"
	"strata/image"
	"strata/redo"
	"strata/revive"
)

// P13.1, P13.5: a device without files, with a checkpoint alone, with a log alone, with both.
func TestWhatIsThere(t *testing.T) {
	recovers(t, "no files", device(t), api.State{Next: 1})
	stood(t, "no files", device(t), 0)
	stood(t, "no files", device(t), api.MaxTime)
	other := laid(t, []api.File{{Name: "notes", Bytes: "x"}, {Name: "log-000000", Bytes: head(0, 9)}, {Name: "manifest-0000001"}, {Name: "manifest-00000000"}, {Name: "tmp-manifest-00000001"}, {Name: "data-00000001"}, {Name: "delta-00000001-00000001"}})
	recovers(t, "files of no checkpoint and no log", other, api.State{Next: 1})

	rows := []api.Row{row("a", "x", 3), row("b", "y", 2)}
	only := laid(t, checkpoint(t, 3, three()...))
	recovers(t, "a checkpoint alone", only, api.State{Rows: rows, Clock: 3, Upto: 3, Next: 1})
	stood(t, "a checkpoint alone", only, 3, rows...)
	stood(t, "a checkpoint alone", only, 4, rows...)
	recovers(t, "a checkpoint of nothing", laid(t, checkpoint(t, 0)), api.State{Next: 1})
	recovers(t, "a checkpoint of nothing, up to the last time", laid(t, checkpoint(t, api.MaxTime)), api.State{Clock: api.MaxTime, Upto: api.MaxTime, Next: 1})

	alone := laid(t, log(1, three()...))
	recovers(t, "a log alone", alone, api.State{Rows: rows[1:], Clock: 5, Next: 4, Played: 3})
	recovers(t, "an empty log alone", laid(t, log(1)), api.State{Next: 1})

	both := laid(t, log(1, three()...), checkpoint(t, 3, three()...))
	recovers(t, "both", both, api.State{Rows: rows[1:], Clock: 5, Upto: 3, Next: 4, Played: 1})
	recovers(t, "both, and all is in the checkpoint", laid(t, log(1, three()...), checkpoint(t, 5, three()...)), api.State{Rows: rows[1:], Clock: 5, Upto: 5, Next: 4})
	recovers(t, "both, and the checkpoint is ahead of the log", laid(t, log(1, three()...), checkpoint(t, 9, append(three(), commit(8, put("c", "z")))...)), api.State{Rows: []api.Row{rows[1], row("c", "z", 8)}, Clock: 9, Upto: 9, Next: 4})
}

// P13.1: commits count by their Stamps, not by their places in the log; of one Stamp the last counts.
func TestOrderOfCommits(t *testing.T) {
	for what, x := range map[string]struct {
		cs   []api.Commit
		rows []api.Row
	}{
		"falling":                       {[]api.Commit{commit(9, put("a", "9")), commit(5, put("a", "5")), commit(2, put("a", "2"))}, []api.Row{row("a", "9", 9)}},
		"rising":                        {[]api.Commit{commit(2, put("a", "2")), commit(5, put("a", "5")), commit(9, put("a", "9"))}, []api.Row{row("a", "9", 9)}},
		"up and down":                   {[]api.Commit{commit(2, put("a", "2")), commit(9, put("a", "9")), commit(5, put("a", "5"))}, []api.Row{row("a", "9", 9)}},
		"one stamp, two puts":           {[]api.Commit{commit(4, put("a", "1")), commit(4, put("a", "2"))}, []api.Row{row("a", "2", 4)}},
		"one stamp, three":              {[]api.Commit{commit(4, put("a", "1")), commit(4, del("a")), commit(4, put("a", "3"))}, []api.Row{row("a", "3", 4)}},
		"one stamp, a delete last":      {[]api.Commit{commit(4, put("a", "1")), commit(4, del("a"))}, nil},
		"one stamp, a lesser behind":    {[]api.Commit{commit(4, put("a", "1")), commit(4, put("a", "2")), commit(3, put("a", "3"))}, []api.Row{row("a", "2", 4)}},
		"one stamp, a greater between":  {[]api.Commit{commit(4, put("a", "1")), commit(6, put("a", "2")), commit(4, put("a", "3"))}, []api.Row{row("a", "2", 6)}},
		"a delete ahead of a lesser":    {[]api.Commit{commit(9, del("a")), commit(4, put("a", "4"))}, nil},
		"a delete behind a greater":     {[]api.Commit{commit(9, put("a", "9")), commit(4, del("a"))}, []api.Row{row("a", "9", 9)}},
		"put, delete, put":              {[]api.Commit{commit(1, put("a", "1")), commit(2, del("a")), commit(3, put("a", "3"))}, []api.Row{row("a", "3", 3)}},
		"put, delete, put, from behind": {[]api.Commit{commit(3, put("a", "3")), commit(2, del("a")), commit(1, put("a", "1"))}, []api.Row{row("a", "3", 3)}},
		"a delete of nothing":           {[]api.Commit{commit(1, del("a"))}, nil},
		"unlike keys":                   {[]api.Commit{commit(7, put("b", "7"), put("d", "7")), commit(3, put("a", "3"), put("b", "3"), del("d"), put("e", "3"))}, []api.Row{row("a", "3", 3), row("b", "7", 7), row("d", "7", 7), row("e", "3", 3)}},
		"empty data":                    {[]api.Commit{commit(1, put("a", "1")), commit(2, put("a", ""))}, []api.Row{row("a", "", 2)}},
		"the last time":                 {[]api.Commit{commit(api.MaxTime, put("a", "last")), commit(api.MaxTime-1, put("a", "ahead"))}, []api.Row{row("a", "last", api.MaxTime)}},
		"keys by their bytes":           {[]api.Commit{commit(1, put("\x00", ""), put("B", ""), put("a", ""), put("a\x00", ""), put("aa", ""), put("b", ""), put("\xc3\xa4", ""), put("\xff", ""))}, []api.Row{row("\x00", "", 1), row("B", "", 1), row("a", "", 1), row("a\x00", "", 1), row("aa", "", 1), row("b", "", 1), row("\xc3\xa4", "", 1), row("\xff", "", 1)}},
	} {
		clock := uint64(0)
		for _, c := range x.cs {
			clock = max(clock, c.Stamp)
		}
		d := laid(t, log(1, x.cs...))
		recovers(t, what, d, api.State{Rows: x.rows, Clock: clock, Next: uint64(len(x.cs)) + 1, Played: len(x.cs)})
		stood(t, what, d, api.MaxTime, x.rows...)
		s := revive.NewStandby()
		catches(t, what, s, d, len(x.cs), api.OK)
		stands(t, what, s, uint64(len(x.cs)), clock, x.rows...)
	}
}

// P13.1: only commits above Upto are played: what the log tells at Upto or below it is in the checkpoint, whatever it says.
func TestCommitsAndUpto(t *testing.T) {
	base := checkpoint(t, 10, commit(4, put("a", "4"), put("b", "4")), commit(10, put("c", "10")))
	cs := []api.Commit{commit(10, put("a", "no"), del("b"), put("n", "no")), commit(9, put("c", "no")), commit(1, del("c")), commit(11, put("b", "11")), commit(12, del("c"), put("d", "12")), commit(10, put("d", "no"))}
	d := laid(t, base, log(1, cs...))
	recovers(t, "at, below and above Upto", d, api.State{Rows: []api.Row{row("a", "4", 4), row("b", "11", 11), row("d", "12", 12)}, Clock: 12, Upto: 10, Next: 7, Played: 2})
	stood(t, "at Upto", d, 10, row("a", "4", 4), row("b", "4", 4), row("c", "10", 10))
	stood(t, "above it", d, 11, row("a", "4", 4), row("b", "11", 11), row("c", "10", 10))
	stood(t, "further on", d, 12, row("a", "4", 4), row("b", "11", 11), row("d", "12", 12))
	stood(t, "at the last time", d, api.MaxTime, row("a", "4", 4), row("b", "11", 11), row("d", "12", 12))
	stale(t, "below Upto", d, 9)
	stale(t, "below Upto", d, 0)
	d = laid(t, base, log(1, cs[:3]...))
	recovers(t, "at and below Upto alone", d, api.State{Rows: []api.Row{row("a", "4", 4), row("b", "4", 4), row("c", "10", 10)}, Clock: 10, Upto: 10, Next: 4})
	d = laid(t, base, log(1, commit(11, del("a"), del("b"), del("c"))))
	recovers(t, "all is deleted", d, api.State{Clock: 11, Upto: 10, Next: 2, Played: 1})
}

// stale looks whether AsOf does not reach back.
func stale(t *testing.T, what string, d *redo.Device, at uint64) {
	t.Helper()
	rows, e := revive.AsOf(d, 3, at)
	want(t, "P13.5: "+what, []any{rows == nil, e}, []any{true, api.ErrStale})
}

// P13.1: the clock is the greatest of Upto, the Stamps that the log tells, and its marks.
func TestClock(t *testing.T) {
	for what, x := range map[string]struct {
		d     *redo.Device
		clock uint64
	}{
		"Upto":                         {laid(t, checkpoint(t, 20, three()...), behind(log(1, three()...), mark(4, 19))), 20},
		"a commit":                     {laid(t, checkpoint(t, 3, three()...), behind(log(1, three()...), mark(4, 4))), 5},
		"a commit, not the last":       {laid(t, log(1, commit(30, put("a", "")), commit(2, put("a", "")))), 30},
		"a commit, not played":         {laid(t, checkpoint(t, 5), log(1, three()...)), 5},
		"a mark":                       {laid(t, behind(log(1, three()...), mark(4, 50))), 50},
		"a mark, not the last":         {laid(t, behind(log(1, three()...), mark(4, 50), mark(4, 40))), 50},
		"a mark alone":                 {laid(t, behind(log(1), mark(1, 50))), 50},
		"a mark of the last time":      {laid(t, behind(log(1), mark(1, api.MaxTime))), api.MaxTime},
		"a mark behind what is torn":   {laid(t, behind(log(1, three()...), "x", mark(4, 50))), 5},
		"a commit behind what is torn": {laid(t, behind(log(1, three()...), "x", data(4, commit(60, put("a", ""))))), 5},
	} {
		s, e := revive.Recover(x.d, 3)
		want(t, "P13.1: "+what, []any{s.Clock, e}, []any{x.clock, api.OK})
	}
}

// P13.1: whether the log reaches back.
func TestReachingBack(t *testing.T) {
	rows := []api.Row{row("a", "x", 3), row("b", "y", 2)}
	base := checkpoint(t, 3, three()...)
	more := []api.Commit{commit(4, put("c", "4")), commit(3, put("c", "no"))}
	after := append([]api.Row{}, append(rows, row("c", "4", 4))...)
	for _, first := range []uint64{2, 4, 77, api.MaxTime - 5} {
		what := fmt.Sprintf("first %d", first)
		next := first + 2
		refuses(t, what+", no manifest", laid(t, log(first, more...)), api.ErrStale)
		refuses(t, what+", no manifest, a mark", laid(t, behind(log(first, more...), mark(next, 3))), api.ErrStale)
		refuses(t, what+", no commit, no manifest", laid(t, log(first)), api.ErrStale)
		refuses(t, what+", no commit, no manifest, a mark", laid(t, behind(log(first), mark(first, 1))), api.ErrStale)
		refuses(t, what+", a manifest under its first name", laid(t, log(first, more...), []api.File{base[0], {Name: "tmp-" + base[1].Name, Bytes: base[1].Bytes}}), api.ErrStale)

		recovers(t, what+", a manifest", laid(t, base, log(first, more...)), api.State{Rows: after, Clock: 4, Upto: 3, Next: next, Played: 1})
		recovers(t, what+", no commit, a manifest", laid(t, base, log(first)), api.State{Rows: rows, Clock: 3, Upto: 3, Next: first})
		recovers(t, what+", marks below and at Upto", laid(t, base, behind(log(first, more...), mark(next, 2), mark(next, 3), mark(next, 1))), api.State{Rows: after, Clock: 4, Upto: 3, Next: next, Played: 1})
		refuses(t, what+", a mark above Upto", laid(t, base, behind(log(first, more...), mark(next, 4))), api.ErrStale)
		refuses(t, what+", a mark above Upto, not the last", laid(t, base, behind(log(first, more...), mark(next, 4), mark(next, 3))), api.ErrStale)
		refuses(t, what+", a mark of the last time", laid(t, base, behind(log(first), mark(first, api.MaxTime))), api.ErrStale)
		recovers(t, what+", a mark above Upto that is not told", laid(t, base, behind(log(first, more...), "x", mark(next, 4))), api.State{Rows: after, Clock: 4, Upto: 3, Next: next, Played: 1, Tail: api.TailMagic})

		recovers(t, what+", a manifest of Upto 0", laid(t, checkpoint(t, 0), log(first, more...)), api.State{Rows: after[2:], Clock: 4, Next: next, Played: 2})
		refuses(t, what+", a manifest of Upto 0 and a mark", laid(t, checkpoint(t, 0), behind(log(first), mark(first, 1))), api.ErrStale)
	}
	state := api.State{Rows: rows[1:], Clock: 9, Next: 4, Played: 3}
	recovers(t, "first 1, a mark, no manifest", laid(t, behind(log(1, three()...), mark(4, 9))), state)
	state.Upto, state.Played = 3, 1
	recovers(t, "first 1, a mark above Upto", laid(t, base, behind(log(1, three()...), mark(4, 9))), state)
	recovers(t, "first 1, no commit, a mark above Upto", laid(t, base, behind(log(1), mark(1, 9))), api.State{Rows: rows, Clock: 9, Upto: 3, Next: 1})
}

// P13.1: the newest checkpoint that is whole counts, and ErrMissing if there are manifests and none is.
func TestCheckpoints(t *testing.T) {
	im, _ := image.New(2)
	first := closed(t, im, 3, three()...)
	second := closed(t, im, 5)
	both := []api.Row{row("a", "x", 3), row("b", "y", 2)}
	recovers(t, "the newer one", laid(t, first, second), api.State{Rows: both[1:], Clock: 5, Upto: 5, Next: 1})
	d := laid(t, first, second)
	ok(t, "Rot", d.Rot("manifest-00000002", 9, 1))
	recovers(t, "the older one", d, api.State{Rows: both, Clock: 3, Upto: 3, Next: 1})
	d = laid(t, first, second, behind(log(4, commit(6, put("c", "6"))), mark(5, 5)))
	recovers(t, "the newer one and its mark", d, api.State{Rows: []api.Row{both[1], row("c", "6", 6)}, Clock: 6, Upto: 5, Next: 5, Played: 1})
	ok(t, "Remove", d.Remove("delta-00000001-00000002"))
	refuses(t, "the older one, and what was trimmed is missing", d, api.ErrStale)
	ok(t, "Remove", d.Remove("manifest-00000002"))
	refuses(t, "likewise without the newer one's manifest", d, api.ErrStale)
	for what, spoil := range map[string]func(d *redo.Device) api.Errno{
		"the manifest":     func(d *redo.Device) api.Errno { return d.Rot("manifest-00000001", 9, 1) },
		"a data file":      func(d *redo.Device) api.Errno { return d.Rot("data-00000001", 9, 1) },
		"no data file":     func(d *redo.Device) api.Errno { return d.Remove("data-00000001") },
		"another's number": func(d *redo.Device) api.Errno { return d.Rename("manifest-00000001", "manifest-00000007") },
	} {
		for _, fs := range [][]api.File{nil, log(1, three()...), log(9, three()...), behind(log(9), mark(9, 44))} {
			d := laid(t, first, fs)
			ok(t, what, spoil(d))
			refuses(t, what, d, api.ErrMissing)
		}
	}
	refuses(t, "two manifests that are none", laid(t, []api.File{{Name: "manifest-00000001"}, {Name: "manifest-99999999", Bytes: "x"}}), api.ErrMissing)
}

// P13.1: the tail's Kind and Next, of every kind.
func TestTails(t *testing.T) {
	turned := func(s string, at int) string { return s[:at] + string([]byte{s[at] ^ 1}) + s[at+1:] }
	next := data(4, commit(9, put("z", "lost")))
	rows := []api.Row{row("b", "y", 2)}
	for what, x := range map[string]struct {
		kind int
		fs   []api.File
	}{
		"clean":                  {api.TailClean, log(1, three()...)},
		"clean by an end":        {api.TailClean, behind(log(1, three()...), end(4), next)},
		"torn in the head":       {api.TailTorn, behind(log(1, three()...), next[:23])},
		"torn in the body":       {api.TailTorn, behind(log(1, three()...), next[:25])},
		"the letters":            {api.TailMagic, behind(log(1, three()...), turned(next, 0))},
		"the head's sum":         {api.TailHead, behind(log(1, three()...), turned(next, 8))},
		"what may not be":        {api.TailForm, behind(log(1, three()...), frame(api.FrameData, 4, "x"))},
		"a mark of nothing":      {api.TailForm, behind(log(1, three()...), mark(4, 0))},
		"the body's sum":         {api.TailBody, behind(log(1, three()...), turned(next, 30))},
		"a number ahead":         {api.TailOrder, behind(log(1, three()...), data(5, commit(9, put("z", "lost"))))},
		"a segment that is torn": {api.TailTorn, append(log(1, three()...), api.File{Name: "log-000050", Bytes: "STRALOG1"})},
		"a segment of another":   {api.TailForm, append(log(1, three()...), api.File{Name: "log-000050", Bytes: head(51, 4)})},
		"a gap":                  {api.TailGap, append(log(1, three()...), segment(50, 5, data(5, commit(9, put("z", "lost")))))},
		"a gap, more behind":     {api.TailGap, append(log(1, three()...), segment(50, 3), segment(51, 4, next))},
	} {
		d := laid(t, x.fs)
		recovers(t, what, d, api.State{Rows: rows, Clock: 5, Next: 4, Played: 3, Tail: x.kind})
		stood(t, what, d, 4, row("a", "x", 3), row("b", "y", 2))
		lay(t, d, checkpoint(t, 3, three()...)...)
		recovers(t, what+", with a checkpoint", d, api.State{Rows: rows, Clock: 5, Upto: 3, Next: 4, Played: 1, Tail: x.kind})
	}
}

// P13.1, P13.5: wrong inputs, and which error comes first.
func TestErrorsOfRecovery(t *testing.T) {
	missing := laid(t, []api.File{{Name: "manifest-00000001"}}, log(4, three()...))
	short := laid(t, log(4, three()...))
	good := laid(t, log(1, three()...), checkpoint(t, 3, three()...))
	for _, workers := range strange() {
		for _, at := range strangeTimes() {
			what := fmt.Sprintf("%d workers, at %d", workers, at)
			for _, d := range none(t) {
				asks(t, what, d, workers, at, api.ErrNil, api.ErrNil)
			}
			var e, before api.Errno
			if workers < 1 || workers > 16 {
				e = api.ErrWorkers
			}
			switch {
			case e != api.OK:
				before = e
			case at > api.MaxTime:
				before = api.ErrArg
			}
			asks(t, what+": missing", missing, workers, at, first(e, api.ErrMissing), first(before, api.ErrMissing))
			asks(t, what+": stale", short, workers, at, first(e, api.ErrStale), first(before, api.ErrStale))
			low := api.OK
			if at < 3 {
				low = api.ErrStale
			}
			asks(t, what, good, workers, at, e, first(before, low))
		}
	}
}

// first tells the error that comes first.
func first(list ...api.Errno) api.Errno {
	for _, e := range list {
		if e != api.OK {
			return e
		}
	}
	return api.OK
}

// asks holds the errors of Recover and AsOf, beside which all is zero.
func asks(t *testing.T, what string, d *redo.Device, workers int, at uint64, recover, asOf api.Errno) {
	t.Helper()
	s, e := revive.Recover(d, workers)
	if want(t, "P13.1: "+what, e, recover); e != api.OK {
		want(t, "P13.1: "+what, s, api.State{})
	}
	rows, e := revive.AsOf(d, workers, at)
	if want(t, "P13.5: "+what, e, asOf); e != api.OK {
		want(t, "P13.5: "+what, rows == nil, true)
	}
}
