package redo_test

import (
	"fmt"
	"math"
	"strings"
	"testing"

	"strata/api"
	"strata/redo"
)

// append1 appends a commit that has to be taken.
func append1(t *testing.T, l *redo.Log, c api.Commit) uint64 {
	t.Helper()
	n, e := l.Append(c)
	if e != api.OK {
		t.Fatalf("P11.19: Append: %d", e)
	}
	return n
}

// size tells the bytes of a file, -1 if it is not there.
func size(d *redo.Device, name string) int {
	for _, f := range d.List() {
		if f.Name == name {
			return f.Size
		}
	}
	return -1
}

// leave fills a device up, so that it has just this room.
func leave(t *testing.T, d *redo.Device, room int) {
	t.Helper()
	d.Create("fill")
	have, _ := d.Room()
	for have < room {
		ok(t, "leave", d.Remove("fill"), d.Create("fill"))
		have, _ = d.Room()
	}
	ok(t, "leave", d.Append("fill", strings.Repeat("x", have-room)))
}

// P11.19
func TestLogAppend(t *testing.T) {
	d := device(t, 10000)
	l := open(t, d, api.LogOptions{Segment: 5000, Batch: 3, First: 5})
	before := deep(d)
	for what, c := range wrongCommits() {
		n, e := l.Append(c)
		want(t, "P11.19: "+what, []any{n, e}, []any{0, api.ErrRecord})
	}
	for i, c := range []api.Commit{c1(), c2(), c3()} {
		want(t, "P11.19: the number", append1(t, l, c), 5+i)
		want(t, "P11.23: Next, Durable", []uint64{l.Next(), l.Durable()}, []uint64{uint64(6 + i), 4})
	}
	want(t, "P11.19: all is in the buffer", deep(d), before)
	want(t, "P11.19: the fourth", append1(t, l, c1()), 8)
	right := headOf(1, 5) + data(5, c1(), c2(), c3())
	want(t, "P11.19: a full buffer is flushed first", read(t, d, nameOf(1)), right)
	ok(t, "P11.20", l.Flush())
	right += data(8, c1())
	want(t, "P11.20: the rest", read(t, d, nameOf(1)), right)
	ok(t, "P11.20: an empty buffer", l.Flush(), l.Flush())
	want(t, "P11.20: nothing happens", read(t, d, nameOf(1)), right)
	want(t, "P11.20: nothing is synced", d.List()[0].Synced, 24)
	one := open(t, d, api.LogOptions{Segment: 5000, Batch: 1})
	append1(t, one, c1())
	want(t, "P11.19: a batch of one", size(d, nameOf(2)), 24)
	append1(t, one, c2())
	want(t, "P11.19: a batch of one", read(t, d, nameOf(2)), headOf(2, 9)+data(9, c1()))
}

// What stands in the buffer is a copy.
func TestLogAppendCopies(t *testing.T) {
	d := device(t, 10000)
	l := open(t, d, options(0))
	c := commit(11, put("a", "1"), del("b"))
	append1(t, l, c)
	c.Writes[0] = put("z", "other")
	c.Writes = append(c.Writes[:1], put("y", ""))
	ok(t, "P11.19", l.Flush())
	want(t, "P11.19: a copy", read(t, d, nameOf(1)), headOf(1, 1)+data(1, c1()))
}

// P11.19: the last number.
func TestLogAppendAtMaxTime(t *testing.T) {
	d := device(t, 1000)
	l := open(t, d, options(api.MaxTime-1))
	want(t, "P11.19: the last number but one", append1(t, l, c1()), uint64(api.MaxTime-1))
	n, e := l.Append(c2())
	want(t, "P11.19: at MaxTime", []any{n, e}, []any{0, api.ErrSpace})
	n, e = l.Append(api.Commit{})
	want(t, "P11.19: a commit that may not be comes first", []any{n, e}, []any{0, api.ErrRecord})
	ok(t, "P11.22: a mark", l.Mark(7))
	list, e := l.Sync()
	want(t, "P11.21", []any{list, e, l.Next(), l.Durable()}, []any{[]uint64{api.MaxTime - 1}, api.OK, uint64(api.MaxTime), uint64(api.MaxTime - 1)})
	commits, marks, tail := redo.Replay(d)
	want(t, "P11.16", []any{commits, marks, tail.Kind, tail.Next}, []any{[]api.Logged{logged(api.MaxTime-1, c1())}, []uint64{7}, 0, uint64(api.MaxTime)})
	l = open(t, d, options(0))
	n, e = l.Append(c2())
	want(t, "P11.19: behind another Open", []any{n, e, l.Next(), l.Durable()}, []any{0, api.ErrSpace, uint64(api.MaxTime), uint64(api.MaxTime - 1)})
	ok(t, "P11.20", l.Flush())
	// a full buffer is not flushed for a commit that gets no number
	d = device(t, 1000)
	l = open(t, d, api.LogOptions{Segment: 256, Batch: 1, First: api.MaxTime - 1})
	append1(t, l, c1())
	n, e = l.Append(c2())
	want(t, "P11.19: ErrSpace ahead of a flush", []any{n, e, size(d, nameOf(1))}, []any{0, api.ErrSpace, 24})
}

// P11.19: a body at MaxBody.
func TestLogFullBody(t *testing.T) {
	for _, last := range []int{-1, 0, 1} {
		d := device(t, api.MaxDevice)
		l := open(t, d, api.LogOptions{Segment: api.MaxSegment, Batch: 64})
		first := []api.Commit{sized(1, 60000), sized(2, 50000), sized(3, 20000)}
		for _, c := range first {
			append1(t, l, c)
		}
		c := sized(4, api.MaxBody-130000+last)
		want(t, "the scene", len(bodyOf(append(first, c)...)), api.MaxBody+last)
		want(t, "P11.19", append1(t, l, c), 4)
		if last <= 0 {
			want(t, "P11.19: a body of at most MaxBody", size(d, nameOf(1)), 24)
			append1(t, l, c1())
			want(t, "P11.19: the next one", read(t, d, nameOf(1)) == headOf(1, 1)+data(1, append(first, c)...), true)
		} else {
			want(t, "P11.19: a byte more", read(t, d, nameOf(1)) == headOf(1, 1)+data(1, first...), true)
			ok(t, "P11.20", l.Flush())
			want(t, "P11.20", read(t, d, nameOf(1)) == headOf(1, 1)+data(1, first...)+data(4, c), true)
		}
	}
	// commits of the greatest size: each is a frame of its own
	d := device(t, api.MaxDevice)
	l := open(t, d, api.LogOptions{Segment: api.MaxSegment, Batch: 64})
	great := rightCommits()[10]
	for range 3 {
		append1(t, l, great)
	}
	want(t, "P11.19: great commits", read(t, d, nameOf(1)) == headOf(1, 1)+data(1, great)+data(2, great), true)
}

// P11.19: the error of the flush is the answer, and the commit is not taken.
func TestLogAppendRefused(t *testing.T) {
	d := device(t, 10000)
	l := open(t, d, api.LogOptions{Segment: 5000, Batch: 2})
	append1(t, l, c1())
	append1(t, l, c2())
	leave(t, d, len(data(1, c1(), c2()))-1)
	before := deep(d)
	for range 3 {
		n, e := l.Append(c3())
		want(t, "P11.19: no room", []any{n, e, l.Next()}, []any{0, api.ErrSpace, 3})
		want(t, "P11.20: no room", l.Flush(), api.ErrSpace)
		list, e := l.Sync()
		want(t, "P11.21: no room", []any{list, e, l.Durable()}, []any{[]uint64(nil), api.ErrSpace, 0})
		want(t, "P11.22: no room", l.Mark(1), api.ErrSpace)
	}
	want(t, "P11.20: nothing has changed", deep(d), before)
	leave(t, d, len(data(1, c1(), c2())))
	want(t, "P11.19: there is room", append1(t, l, c3()), 3)
	want(t, "P11.20: the buffer was as it had been", read(t, d, nameOf(1)), headOf(1, 1)+data(1, c1(), c2()))
	append1(t, l, c3())
	ok(t, "room", d.Remove("fill"), d.Cut(0))
	n, e := l.Append(c1())
	want(t, "P11.19: no power", []any{n, e, l.Next(), l.Durable()}, []any{0, api.ErrHalt, 5, 0})
}

// P11.20: when a log turns.
func TestTurnAtTheByte(t *testing.T) {
	frame := data(2, c2())
	for more := -2; more <= 2; more++ {
		d := device(t, 10000)
		l := open(t, d, api.LogOptions{Segment: 400, Batch: 1})
		// the segment's size behind the first frame, with the second and 24 bytes, is 400 and some more
		first := sized(1, 400+more-24-len(frame)-24-24)
		append1(t, l, first)
		ok(t, "P11.20", l.Flush())
		want(t, "the scene", size(d, nameOf(1))+len(frame)+24, 400+more)
		append1(t, l, c2())
		ok(t, "P11.20", l.Flush())
		one := headOf(1, 1) + data(1, first)
		if more <= 0 {
			want(t, fmt.Sprint("P11.20: no turn at ", 400+more), []any{read(t, d, nameOf(1)), size(d, nameOf(2))}, []any{one + frame, -1})
		} else {
			want(t, fmt.Sprint("P11.20: a turn at ", 400+more), []any{read(t, d, nameOf(1)), read(t, d, nameOf(2))}, []any{one + end(2), headOf(2, 2) + frame})
			want(t, "P11.20: what is synced", d.List(), []api.FileInfo{{Name: nameOf(1), Size: len(one) + 24, Synced: len(one) + 24}, {Name: nameOf(2), Size: 24 + len(frame), Synced: 24}})
			want(t, "P11.20: the directory", d.Changes(), 0)
		}
	}
}

// A segment of 24 bytes takes a frame of any size; one of 25 does not.
func TestTurnOfAnEmptySegment(t *testing.T) {
	d := device(t, 10000)
	l := open(t, d, api.LogOptions{Segment: 256, Batch: 1})
	great := sized(3, 700)
	append1(t, l, great)
	ok(t, "P11.20", l.Flush())
	want(t, "P11.20: a frame above o.Segment", read(t, d, nameOf(1)), headOf(1, 1)+data(1, great))
	ok(t, "P11.22", l.Mark(9))
	want(t, "P11.20: the next one turns", []string{read(t, d, nameOf(1)), read(t, d, nameOf(2))}, []string{headOf(1, 1) + data(1, great) + end(2), headOf(2, 2) + mark(2, 9)})
	// a byte by hand
	l = open(t, d, api.LogOptions{Segment: 256, Batch: 1})
	ok(t, "Append", d.Append(nameOf(3), "x"))
	append1(t, l, great)
	ok(t, "P11.20", l.Flush())
	want(t, "P11.20: more than 24 bytes", []string{read(t, d, nameOf(3)), read(t, d, nameOf(4))}, []string{headOf(3, 2) + "x" + end(2), headOf(4, 2) + data(2, great)})
}

// P11.20: a segment's file that is not there, or the next one's that is.
func TestFilesByHand(t *testing.T) {
	begin := func(fill int) (*redo.Device, *redo.Log) {
		d := device(t, 10000)
		l := open(t, d, api.LogOptions{Segment: 256, Batch: 4})
		append1(t, l, sized(1, fill))
		ok(t, "Flush", l.Flush())
		append1(t, l, c2())
		return d, l
	}
	d, l := begin(200)
	ok(t, "Remove", d.Remove(nameOf(1)))
	before := deep(d)
	want(t, "P11.20: a file that is not there counts as empty: no turn, and an Append that is refused", l.Flush(), api.ErrHalt)
	want(t, "P11.20", deep(d), before)
	d, l = begin(200)
	ok(t, "Rename", d.Rename(nameOf(1), "away"))
	leave(t, d, len(data(2, c2()))-1)
	want(t, "P11.20: room is looked at first", l.Flush(), api.ErrSpace)
	leave(t, d, len(data(2, c2())))
	want(t, "P11.20: 48 more are not asked for", l.Flush(), api.ErrHalt)
	d, l = begin(200)
	ok(t, "Remove, Create", d.Remove(nameOf(1)), d.Create(nameOf(1)))
	ok(t, "P11.20: an empty file", l.Flush())
	want(t, "P11.20: an empty file", names(d)+read(t, d, nameOf(1)), "1"+data(2, c2()))
	d, l = begin(200)
	lay(t, d, nameOf(2), "mine", 4)
	want(t, "P11.20: the next segment's name is taken", l.Flush(), api.ErrHalt)
	want(t, "P11.20: the end was written", []string{read(t, d, nameOf(1)), read(t, d, nameOf(2))}, []string{headOf(1, 1) + data(1, sized(1, 200)) + end(2), "mine"})
	d, l = begin(30)
	ok(t, "Remove", d.Remove(nameOf(1)))
	ok(t, "Create", d.Create("x"))
	list, e := l.Sync()
	want(t, "P11.21: no file", []any{list, e, l.Durable()}, []any{[]uint64(nil), api.ErrHalt, 0})
	d, l = begin(30)
	ok(t, "Flush", l.Flush(), d.Remove(nameOf(1)))
	list, e = l.Sync()
	want(t, "P11.21: no file, and an empty buffer", []any{list, e, l.Durable()}, []any{[]uint64(nil), api.ErrHalt, 0})
}

// P11.20: no room, with and without a turn.
func TestPutNoRoom(t *testing.T) {
	frame := len(data(2, c2()))
	for _, x := range []struct {
		turns             bool
		room, free, first int
		right             api.Errno
	}{
		{false, frame, 5, 1, api.OK}, {false, frame - 1, 5, 1, api.ErrSpace}, {false, frame, 0, 1, api.OK}, {false, 0, 5, 1, api.ErrSpace},
		{true, frame + 48, 5, 1, api.OK}, {true, frame + 47, 5, 1, api.ErrSpace}, {true, frame, 5, 1, api.ErrSpace}, {true, frame + 48, 1, 1, api.OK}, {true, frame + 48, 0, 1, api.ErrSpace}, {true, 5000, 0, 1, api.ErrSpace},
		{false, 5000, 5, 999999, api.OK}, {true, 5000, 5, 999998, api.OK}, {true, 5000, 5, 999999, api.ErrSpace},
	} {
		d := device(t, 20000)
		if x.first > 1 {
			lay(t, d, nameOf(x.first-1), "", 0)
		}
		l := open(t, d, api.LogOptions{Segment: 256, Batch: 4})
		fill := 60
		if x.turns {
			fill = 200
		}
		append1(t, l, sized(1, fill))
		ok(t, "Flush", l.Flush())
		append1(t, l, c2())
		leave(t, d, x.room)
		for i := len(d.List()); i < api.MaxFiles-x.free; i++ {
			ok(t, "Create", d.Create(fmt.Sprint("f", i)))
		}
		ok(t, "SyncDir", d.SyncDir())
		before := deep(d)
		what := fmt.Sprintf("P11.20: %+v", x)
		want(t, what, l.Flush(), x.right)
		if x.right == api.ErrSpace {
			want(t, what+": nothing has changed", deep(d), before)
			ok(t, "room", d.Remove("fill"))
			if x.free == 0 {
				ok(t, "room", d.Remove("f9"))
			}
			if x.first < 999999 {
				ok(t, what+": with room", l.Flush())
			}
		}
		if x.first == 999999 && x.turns {
			continue
		}
		commits, _, _ := redo.Replay(d)
		want(t, what, commits, []api.Logged{logged(1, sized(1, fill)), logged(2, c2())})
		want(t, what, size(d, nameOf(min(x.first+1, 999999))) >= 0 == (x.turns || x.first == 999999), true)
	}
}

// P11.21
func TestLogSync(t *testing.T) {
	d := device(t, 10000)
	l := open(t, d, options(7))
	list, e := l.Sync()
	want(t, "P11.21: none", []any{len(list), e, l.Durable()}, []any{0, api.OK, 6})
	append1(t, l, c1())
	append1(t, l, c2())
	ok(t, "Flush", l.Flush())
	append1(t, l, c3())
	want(t, "P11.23: Durable", []uint64{l.Next(), l.Durable()}, []uint64{10, 6})
	list, e = l.Sync()
	want(t, "P11.21", []any{list, e, l.Next(), l.Durable()}, []any{[]uint64{7, 8, 9}, api.OK, 10, 9})
	want(t, "P11.21: all is synced", d.List(), []api.FileInfo{{Name: nameOf(1), Size: size(d, nameOf(1)), Synced: size(d, nameOf(1))}})
	want(t, "P11.21: the bytes", read(t, d, nameOf(1)), headOf(1, 7)+data(7, c1(), c2())+data(9, c3()))
	list, e = l.Sync()
	want(t, "P11.21: none any more", []any{len(list), e}, []any{0, api.OK})
	ok(t, "P11.22", l.Mark(3))
	append1(t, l, c1())
	list, e = l.Sync()
	want(t, "P11.21: behind a mark", []any{list, e}, []any{[]uint64{10}, api.OK})
	// commits that stand in several segments
	many := uint64(0)
	for range 40 {
		many = append1(t, l, sized(9, 60))
	}
	list, e = l.Sync()
	want(t, "P11.21: many", []any{len(list), list[0], list[39], many, e, l.Durable()}, []any{40, 11, 50, 50, api.OK, 50})
	if len(d.List()) < 10 {
		t.Errorf("the scene: %d segments", len(d.List()))
	}
	for _, f := range d.List() {
		want(t, "P11.21: all segments are synced", f.Synced, f.Size)
	}
}

// P11.22
func TestMark(t *testing.T) {
	d := device(t, 10000)
	l := open(t, d, options(0))
	append1(t, l, c1())
	before := deep(d)
	for _, stamp := range []uint64{0, api.MaxTime + 1, 1 << 63, math.MaxUint64} {
		want(t, "P11.22: a stamp that may not be", l.Mark(stamp), api.ErrArg)
	}
	want(t, "P11.22: nothing was flushed", deep(d), before)
	ok(t, "P11.22", l.Mark(1), l.Mark(api.MaxTime))
	want(t, "P11.22: it flushes first", read(t, d, nameOf(1)), headOf(1, 1)+data(1, c1())+mark(2, 1)+mark(2, api.MaxTime))
	want(t, "P11.22: it syncs nothing", d.List()[0].Synced, 24)
	want(t, "P11.23: no number is taken", []uint64{l.Next(), l.Durable()}, []uint64{2, 0})
	// no room for the mark: what was flushed stands
	for room, right := range map[int]string{len(data(2, c2())) + 31: data(2, c2()), len(data(2, c2())) + 32: data(2, c2()) + mark(3, 5), len(data(2, c2())) - 1: ""} {
		d := device(t, 1000)
		l := open(t, d, options(2))
		append1(t, l, c2())
		leave(t, d, room)
		e := l.Mark(5)
		want(t, "P11.22: no room", []any{e, read(t, d, nameOf(1))}, []any{map[bool]api.Errno{true: api.OK, false: api.ErrSpace}[len(right) == len(data(2, c2()))+32], headOf(1, 2) + right})
		ok(t, "room", d.Remove("fill"))
		ok(t, "P11.22: the log goes on", l.Mark(6))
		commits, _, _ := redo.Replay(d)
		want(t, "P11.22", commits, []api.Logged{logged(2, c2())})
	}
	// a mark turns like data, at the very byte
	for more := 0; more < 2; more++ {
		d := device(t, 1000)
		l := open(t, d, api.LogOptions{Segment: 256, Batch: 1})
		c := sized(1, 256+more-24-24-32-24)
		append1(t, l, c)
		ok(t, "P11.22", l.Mark(5))
		if more == 0 {
			want(t, "P11.22: no turn", names(d)+read(t, d, nameOf(1)), "1"+headOf(1, 1)+data(1, c)+mark(2, 5))
		} else {
			want(t, "P11.22: a turn", []string{read(t, d, nameOf(1)), read(t, d, nameOf(2))}, []string{headOf(1, 1) + data(1, c) + end(2), headOf(2, 2) + mark(2, 5)})
		}
	}
	// a mark with no power
	d = device(t, 1000)
	l = open(t, d, options(0))
	append1(t, l, c1())
	ok(t, "Cut", d.Cut(1))
	want(t, "P11.22: no power", []any{l.Mark(5), read(t, d, nameOf(1))}, []any{api.ErrHalt, headOf(1, 1) + data(1, c1())})
}
