package redo_test

import (
	"fmt"
	"math"
	"strings"
	"testing"

	"strata/api"
	"strata/redo"
)

func options(first uint64) api.LogOptions {
	return api.LogOptions{Segment: 256, Batch: 4, First: first}
}

// open opens a log that has to be opened.
func open(t *testing.T, d *redo.Device, o api.LogOptions) *redo.Log {
	t.Helper()
	l, _, e := redo.Open(d, o)
	if l == nil || e != api.OK {
		t.Fatalf("P11.18: Open(%+v): %v, %d", o, l != nil, e)
	}
	return l
}

// names tells the files of a device.
func names(d *redo.Device) string {
	text := ""
	for _, f := range d.List() {
		text += " " + f.Name
	}
	return strings.TrimSpace(strings.ReplaceAll(text, "log-00000", ""))
}

// P11.18: which options may be.
func TestOpenOptions(t *testing.T) {
	for _, o := range []api.LogOptions{
		{Segment: 256, Batch: 1}, {Segment: 262144, Batch: 1}, {Segment: 300, Batch: 64}, {Segment: 256, Batch: 1, First: 1}, {Segment: 256, Batch: 1, First: api.MaxTime},
	} {
		l, tail, e := redo.Open(device(t, 100), o)
		want(t, fmt.Sprintf("P11.18: %+v", o), []any{l != nil, tail, e, l.Next()}, []any{true, api.Tail{Next: 1}, api.OK, max(o.First, 1)})
	}
	var wrong []api.LogOptions
	for _, n := range append(strange(), 255, 262145) {
		if n < 256 || n > 262144 {
			wrong = append(wrong, api.LogOptions{Segment: n, Batch: 1})
		}
		if n < 1 || n > 64 {
			wrong = append(wrong, api.LogOptions{Segment: 256, Batch: n})
		}
	}
	for _, n := range []uint64{api.MaxTime + 1, 1 << 63, math.MaxUint64} {
		wrong = append(wrong, api.LogOptions{Segment: 256, Batch: 1, First: n})
	}
	for _, o := range wrong {
		d := log(t, headOf(1, 1)+data(1, c1()))
		old := open(t, d, options(0))
		ok(t, "Cut", d.Cut(0))
		before := deep(d)
		l, tail, e := redo.Open(d, o)
		want(t, fmt.Sprintf("P11.18: %+v", o), []any{l == nil, tail, e}, []any{true, api.Tail{}, api.ErrArg})
		want(t, "P11.18: nothing has changed", deep(d), before)
		ok(t, "P11.18: the log that was open goes on", d.Cut(-1), old.Mark(3))
		// ErrArg comes ahead of no room
		l, tail, e = redo.Open(device(t, 1), o)
		want(t, fmt.Sprintf("P11.18: %+v, no room", o), []any{l == nil, tail, e}, []any{true, api.Tail{}, api.ErrArg})
	}
}

// P11.18: which number the log goes on with, which segments are left, and what the new one is.
func TestOpenLeaves(t *testing.T) {
	good := headOf(1, 1) + data(1, c1(), c2())
	for what, x := range map[string]struct {
		segments []string
		first    uint64
		tail     api.Tail
		next     uint64
		left     string // the names of all files behind it, the new segment last
	}{
		"nothing there":                   {nil, 0, api.Tail{Next: 1}, 1, "1"},
		"nothing there, First 1":          {nil, 1, api.Tail{Next: 1}, 1, "1"},
		"nothing there, First 2":          {nil, 2, api.Tail{Next: 1}, 2, "1"},
		"one":                             {[]string{good}, 0, api.Tail{Segment: 1, Offset: len(good), Next: 3}, 3, "1 2"},
		"one, First below":                {[]string{good}, 2, api.Tail{Segment: 1, Offset: len(good), Next: 3}, 3, "1 2"},
		"one, First the same":             {[]string{good}, 3, api.Tail{Segment: 1, Offset: len(good), Next: 3}, 3, "1 2"},
		"one, First above":                {[]string{good}, 4, api.Tail{Segment: 1, Offset: len(good), Next: 3}, 4, "2"},
		"one, First MaxTime":              {[]string{good}, api.MaxTime, api.Tail{Segment: 1, Offset: len(good), Next: 3}, api.MaxTime, "2"},
		"an empty one":                    {[]string{headOf(1, 7)}, 0, api.Tail{Segment: 1, Offset: 24, Next: 7}, 7, "2"},
		"an end alone":                    {[]string{headOf(1, 7) + end(7)}, 0, api.Tail{Segment: 1, Offset: 48, Next: 7}, 7, "2"},
		"a mark alone":                    {[]string{headOf(1, 7) + mark(7, 1)}, 0, api.Tail{Segment: 1, Offset: 56, Next: 7}, 7, "1 2"},
		"one that is torn behind a frame": {[]string{good + "S"}, 0, api.Tail{Kind: api.TailTorn, Segment: 1, Offset: len(good), Next: 3}, 3, "1 2"},
		"one that is torn at once":        {[]string{good, headOf(2, 3) + "S"}, 0, api.Tail{Kind: api.TailTorn, Segment: 2, Offset: 24, Next: 3}, 3, "1 3"},
		"no head":                         {[]string{"junk", good}, 0, api.Tail{Kind: api.TailForm, Segment: 2, Next: 1}, 1, "3"},
		"no head, then a good one":        {[]string{"junk", headOf(2, 5) + data(5, c1())}, 0, api.Tail{Segment: 2, Offset: 24 + len(data(5, c1())), Next: 6}, 6, "2 3"},
		"a gap":                           {[]string{good, headOf(2, 5) + data(5, c1())}, 0, api.Tail{Kind: api.TailGap, Segment: 2, Next: 3}, 3, "1 3"},
		"a gap, more behind it":           {[]string{good, headOf(2, 5) + data(5, c1()), headOf(3, 3) + data(3, c1())}, 3, api.Tail{Kind: api.TailGap, Segment: 2, Next: 3}, 3, "1 4"},
		"a gap, First above":              {[]string{good, headOf(2, 5) + data(5, c1()), headOf(3, 3)}, 9, api.Tail{Kind: api.TailGap, Segment: 2, Next: 3}, 9, "4"},
		"all kinds":                       {[]string{good + end(3), headOf(2, 3), "", headOf(4, 3) + mark(3, 9), headOf(5, 3) + "torn", headOf(6, 3) + data(3, c3())}, 0, api.Tail{Segment: 6, Offset: 24 + len(data(3, c3())), Next: 4}, 4, "1 4 6 7"},
	} {
		d := log(t, x.segments...)
		commits, marks, _ := redo.Replay(d)
		l, tail, e := redo.Open(d, options(x.first))
		if l == nil || e != api.OK {
			t.Errorf("P11.18: %s: %v, %d", what, l != nil, e)
			continue
		}
		want(t, "P11.18: "+what, []any{tail, l.Next(), l.Durable(), names(d)}, []any{x.tail, x.next, x.next - 1, x.left})
		for i, s := range x.segments {
			if now, e := d.Read(nameOf(i + 1)); e == api.OK && now != s {
				t.Errorf("P11.18: %s: segment %d has changed", what, i+1)
			}
		}
		n := len(x.segments) + 1
		want(t, "P11.18: the new segment: "+what, read(t, d, nameOf(n)), headOf(n, x.next))
		for _, f := range d.List() {
			want(t, "P11.18: all is synced: "+what, f.Synced, f.Size)
		}
		want(t, "P11.18: the directory too: "+what, d.Changes(), 0)
		again, marksAgain, tail := redo.Replay(d)
		if x.next > x.tail.Next {
			commits, marks = nil, nil
		}
		want(t, "P11.18: what is told behind it: "+what, []any{again, marksAgain, tail}, []any{commits, marks, api.Tail{Segment: n, Offset: 24, Next: x.next}})
	}
}

// P11.18: no room.
func TestOpenNoRoom(t *testing.T) {
	build := func(room, free, last int) *redo.Device {
		d := device(t, 1000)
		s := headOf(last, 1) + data(1, c1())
		if last > 0 {
			lay(t, d, nameOf(last), s, 0)
		}
		for i := len(d.List()); i < api.MaxFiles-free; i++ {
			ok(t, "Create", d.Create(fmt.Sprint("f", i)))
		}
		bytes, _ := d.Room()
		ok(t, "the scene", d.Append("f1", strings.Repeat("x", bytes-room)), d.SyncDir(), d.Rename("f2", "g2"))
		bytes, files := d.Room()
		want(t, "the scene", []int{bytes, files}, []int{room, free})
		return d
	}
	for _, x := range []struct {
		room, free, last int
		right            api.Errno
	}{
		{24, 1, 0, api.OK}, {23, 1, 0, api.ErrSpace}, {0, 1, 0, api.ErrSpace}, {24, 0, 0, api.ErrSpace},
		{24, 1, 5, api.OK}, {23, 1, 5, api.ErrSpace}, {24, 0, 5, api.ErrSpace}, {500, 0, 5, api.ErrSpace},
		{500, 9, 999998, api.OK}, {500, 9, 999999, api.ErrSpace},
	} {
		for _, first := range []uint64{0, 99} {
			d := build(x.room, x.free, x.last)
			before := deep(d)
			_, _, tail := redo.Replay(d)
			l, got, e := redo.Open(d, options(first))
			want(t, fmt.Sprintf("P11.18: %+v", x), []any{l != nil, got, e}, []any{x.right == api.OK, tail, x.right})
			if e == api.OK {
				want(t, "P11.18: the new segment", read(t, d, nameOf(x.last+1)), headOf(x.last+1, max(first, tail.Next)))
				continue
			}
			want(t, "P11.18: nothing has changed", deep(d), before)
			ok(t, "Cut", d.Cut(0))
			_, got, e = redo.Open(d, options(first))
			want(t, "P11.18: no room ahead of no power", []any{got, e}, []any{tail, api.ErrSpace})
		}
	}
}

// The last number in the directory counts, whatever is in that file; a name with the number 000000, and others, do not.
func TestOpenNumber(t *testing.T) {
	d := files(t, map[string]string{"log-000003": "junk", "log-000007": "", "log-000000": "x", "log-00009": "", "x": ""})
	l, tail, e := redo.Open(d, options(0))
	want(t, "P11.18", []any{l != nil, tail, e}, []any{true, api.Tail{Kind: api.TailTorn, Segment: 7, Next: 1}, api.OK})
	want(t, "P11.18: what is no segment is not touched", names(d), "0 8 log-00009 x")
	for _, f := range d.List() {
		if f.Name == "log-000000" {
			want(t, "P11.18: nor synced", f.Synced, 0)
		}
	}
}

// all tells how each call of a log is answered, with arguments that are wrong too.
func all(l *redo.Log) map[string]api.Errno {
	_, append1 := l.Append(c1())
	_, append2 := l.Append(api.Commit{})
	_, sync := l.Sync()
	_, trim1 := l.Trim(0)
	_, trim2 := l.Trim(math.MaxUint64)
	return map[string]api.Errno{"Append": append1, "Append of none": append2, "Flush": l.Flush(), "Sync": sync, "Mark": l.Mark(1), "Mark(0)": l.Mark(0), "Trim(0)": trim1, "Trim": trim2}
}

// stopped looks whether a log has stopped.
func stopped(t *testing.T, what string, d *redo.Device, l *redo.Log) {
	t.Helper()
	before, next, durable := deep(d), l.Next(), l.Durable()
	for name, e := range all(l) {
		want(t, "P11.18: a stopped log, "+what+": "+name, e, api.ErrHalt)
	}
	n, e := l.Append(c1())
	list, e2 := l.Sync()
	gone, e3 := l.Trim(9)
	want(t, "P11.18: a stopped log, "+what, []any{n, e, list, e2, gone, e3}, []any{0, api.ErrHalt, []uint64(nil), api.ErrHalt, 0, api.ErrHalt})
	want(t, "P11.18: a stopped log changes nothing, "+what, deep(d), before)
	want(t, "P11.23: a stopped log, "+what, []uint64{l.Next(), l.Durable()}, []uint64{next, durable})
}

// P11.18: what stops a log, and what does not.
func TestStopped(t *testing.T) {
	begin := func() (*redo.Device, *redo.Log) {
		d := log(t, headOf(1, 1)+data(1, c1(), c2()))
		l := open(t, d, options(0))
		if n, e := l.Append(c3()); n != 3 || e != api.OK {
			t.Fatalf("P11.19: %d, %d", n, e)
		}
		return d, l
	}
	d, l := begin()
	ok(t, "Crash", d.Crash(0))
	stopped(t, "a crash", d, l)
	want(t, "P11.23", []uint64{l.Next(), l.Durable()}, []uint64{4, 2})

	d, l = begin()
	other := open(t, d, options(0))
	stopped(t, "another Open", d, l)
	if n, e := other.Append(c3()); n != 3 || e != api.OK {
		t.Errorf("P11.18: the other log: %d, %d", n, e)
	}
	ok(t, "P11.18: the other log", other.Flush())

	for n := range 6 {
		d, l = begin()
		ok(t, "Cut", d.Cut(n))
		x, tail, e := redo.Open(d, options(0))
		want(t, "P11.18: an Open that is refused", []any{x == nil, tail, e}, []any{true, api.Tail{Segment: 2, Offset: 24, Next: 3}, api.ErrPower})
		stopped(t, "an Open that was refused", d, l)
		ok(t, "Crash", d.Crash(9))
		stopped(t, "an Open that was refused, and a crash", d, l)
	}

	d, l = begin()
	ok(t, "Cut", d.Cut(0))
	want(t, "P11.18: the call in which a refusal comes", l.Flush(), api.ErrHalt)
	stopped(t, "a refusal", d, l)
	ok(t, "Crash", d.Crash(0))
	stopped(t, "a refusal and a crash", d, l)

	d, l = begin()
	ok(t, "Remove", d.Remove(nameOf(2)))
	want(t, "P11.18: a file that is not there", l.Flush(), api.ErrHalt)
	stopped(t, "a file that is not there", d, l)
	ok(t, "Create", d.Create(nameOf(2)))
	stopped(t, "a file that is there again", d, l)

	d, l = begin()
	c := d.Copy()
	ok(t, "P11.18: a crash of a copy", c.Crash(0))
	open(t, d.Copy(), options(0))
	d.Copy().Cut(0)
	if x, _, e := redo.Open(d, api.LogOptions{}); x != nil || e != api.ErrArg {
		t.Errorf("P11.18: %d", e)
	}
	bytes, _ := d.Room()
	ok(t, "fill", d.Create("x"), d.Append("x", strings.Repeat("x", bytes-20)))
	if x, _, e := redo.Open(d, options(0)); x != nil || e != api.ErrSpace {
		t.Errorf("P11.18: %d", e)
	}
	want(t, "P11.20: no room", l.Flush(), api.ErrSpace)
	want(t, "P11.22: a stamp that may not be", l.Mark(0), api.ErrArg)
	if _, e := l.Append(api.Commit{}); e != api.ErrRecord {
		t.Errorf("P11.19: %d", e)
	}
	ok(t, "P11.18: none of these stops the log", d.Remove("x"), l.Flush())
	list, e := l.Sync()
	want(t, "P11.18: none of these stops the log", []any{list, e}, []any{[]uint64{3}, api.OK})
}

// A log that is none.
func TestNoLog(t *testing.T) {
	var zero redo.Log
	byValue := *open(t, device(t, 100), options(0))
	for i, l := range []*redo.Log{nil, {}, &zero, &byValue} {
		for what, e := range all(l) {
			want(t, fmt.Sprintf("no log, %d: %s", i, what), e, api.ErrNil)
		}
		want(t, "P11.23: no log", []uint64{l.Next(), l.Durable()}, []uint64{0, 0})
		n, e := l.Append(c1())
		list, e2 := l.Sync()
		gone, e3 := l.Trim(1)
		want(t, "no log", []any{n, e, list, e2, gone, e3}, []any{0, api.ErrNil, []uint64(nil), api.ErrNil, 0, api.ErrNil})
	}
}
