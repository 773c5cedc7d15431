package redo_test

import (
	"fmt"
	"math"
	"math/rand"
	"slices"
	"strings"
	"testing"

	"strata/api"
	"strata/redo"
)

// files gives a device with these files.
func files(t *testing.T, all map[string]string) *redo.Device {
	t.Helper()
	d := device(t, api.MaxDevice)
	for name, s := range all {
		lay(t, d, name, s, len(s)/2)
	}
	return d
}

// log gives a device with these segments, 1, 2, ..
func log(t *testing.T, segments ...string) *redo.Device {
	t.Helper()
	all := map[string]string{}
	for i, s := range segments {
		all[nameOf(i+1)] = s
	}
	return files(t, all)
}

func logged(lsn uint64, c api.Commit) api.Logged { return api.Logged{Lsn: lsn, Commit: c} }

// reads holds what Replay tells against what it should.
func reads(t *testing.T, what string, d *redo.Device, commits []api.Logged, marks []uint64, tail api.Tail) {
	t.Helper()
	before := deep(d)
	c, m, x := redo.Replay(d)
	want(t, "P11.16: "+what, []any{c, m, x}, []any{commits, marks, tail})
	want(t, "P11.16: reading changes nothing: "+what, deep(d), before)
}

func c1() api.Commit { return commit(11, put("a", "1"), del("b")) }
func c2() api.Commit { return commit(12, put("a", "2")) }
func c3() api.Commit { return commit(9, put("c", "3")) }

// P11.16: what is right.
func TestReplay(t *testing.T) {
	reads(t, "no segments", device(t, 10), nil, nil, api.Tail{Next: 1})
	reads(t, "files of other names", files(t, map[string]string{
		"log-000000": headOf(0, 1) + data(1, c1()), "log-00001": headOf(1, 1) + data(1, c1()), "log-0000001": headOf(1, 1) + data(1, c1()),
		"log-00000a": headOf(1, 1), "log-1000000": headOf(1000000, 1), "log_000001": headOf(1, 1) + data(1, c1()), "log-": "", "log--00001": "", "log-00-001": "", "log-0.0001": "", "000001": headOf(1, 1), "xlog-000001": headOf(1, 1),
	}), nil, nil, api.Tail{Next: 1})
	reads(t, "an empty segment", log(t, headOf(1, 1)), nil, nil, api.Tail{Segment: 1, Offset: 24, Next: 1})
	reads(t, "an empty segment that begins later", log(t, headOf(1, 77)), nil, nil, api.Tail{Segment: 1, Offset: 24, Next: 77})
	one := headOf(1, 1) + data(1, c1())
	reads(t, "one commit", log(t, one), []api.Logged{logged(1, c1())}, nil, api.Tail{Segment: 1, Offset: len(one), Next: 2})
	two := headOf(1, 5) + data(5, c1(), c2()) + mark(7, 3) + data(7, c3()) + mark(8, 2) + mark(8, api.MaxTime)
	all := []api.Logged{logged(5, c1()), logged(6, c2()), logged(7, c3())}
	reads(t, "frames, marks", log(t, two), all, []uint64{3, 2, api.MaxTime}, api.Tail{Segment: 1, Offset: len(two), Next: 8})
	reads(t, "an end", log(t, two+end(8)), all, []uint64{3, 2, api.MaxTime}, api.Tail{Segment: 1, Offset: len(two) + 24, Next: 8})
	for _, behind := range []string{"x", data(8, c1()), mark(8, 1), end(8), strings.Repeat("\x00", 100)} {
		reads(t, "an end with something behind it", log(t, two+end(8)+behind), all, []uint64{3, 2, api.MaxTime}, api.Tail{Segment: 1, Offset: len(two) + 24, Next: 8})
	}
	reads(t, "an end at once", log(t, headOf(1, 4)+end(4)+data(4, c1()), headOf(2, 4)+data(4, c2())), []api.Logged{logged(4, c2())}, nil, api.Tail{Segment: 2, Offset: 24 + len(data(4, c2())), Next: 5})
	reads(t, "two segments", log(t, two+end(8), headOf(2, 8)+data(8, c2())), append(all, logged(8, c2())), []uint64{3, 2, api.MaxTime}, api.Tail{Segment: 2, Offset: 24 + len(data(8, c2())), Next: 9})
	reads(t, "a segment that gives nothing in between", log(t, two, headOf(2, 8), headOf(3, 8)+mark(8, 4)), all, []uint64{3, 2, api.MaxTime, 4}, api.Tail{Segment: 3, Offset: 56, Next: 8})
	// the numbers of segments have gaps, and rise as numbers
	d := files(t, map[string]string{"log-000009": headOf(9, 1) + data(1, c1()), "log-000010": headOf(10, 2) + data(2, c2()), "log-999999": headOf(999999, 3) + data(3, c3()), "log-000000": "", "x": "y"})
	reads(t, "numbers with gaps", d, []api.Logged{logged(1, c1()), logged(2, c2()), logged(3, c3())}, nil, api.Tail{Segment: 999999, Offset: 24 + len(data(3, c3())), Next: 4})
}

// P11.16, point 2: each fault of a head, alone, ahead of a segment and behind one.
func TestReplayHeads(t *testing.T) {
	head := func(letters string, n uint32, first uint64) string {
		h := letters + fixed32(n) + fixed64(first)
		return h + sum(h) + data(1, c3())
	}
	for what, x := range map[string]struct {
		kind int
		s    string // of segment 2
	}{
		"no byte":                   {api.TailTorn, ""},
		"23 bytes":                  {api.TailTorn, headOf(2, 1)[:23]},
		"23 bytes of other letters": {api.TailTorn, strings.Repeat("x", 23)},
		"letters":                   {api.TailMagic, head("STRALOG2", 2, 1)},
		"letters in small":          {api.TailMagic, head("stralog1", 2, 1)},
		"letters and a wrong sum":   {api.TailMagic, strings.Repeat("x", 24)},
		"a frame":                   {api.TailMagic, data(1, c3())},
		"the sum":                   {api.TailHead, turned(headOf(2, 1), 23, 1) + data(1, c3())},
		"the sum, first":            {api.TailHead, turned(head("STRALOG1", 7, 0), 20, 1)},
		"another number":            {api.TailForm, head("STRALOG1", 1, 1)},
		"number 0":                  {api.TailForm, head("STRALOG1", 0, 1)},
		"a greater number":          {api.TailForm, head("STRALOG1", 2+1<<24, 1)},
		"the greatest number":       {api.TailForm, head("STRALOG1", math.MaxUint32, 1)},
		"first 0":                   {api.TailForm, head("STRALOG1", 2, 0)},
		"first above MaxTime":       {api.TailForm, head("STRALOG1", 2, api.MaxTime+1)},
		"the greatest first":        {api.TailForm, head("STRALOG1", 2, math.MaxUint64)},
	} {
		reads(t, what, files(t, map[string]string{nameOf(2): x.s}), nil, nil, api.Tail{Kind: x.kind, Segment: 2, Next: 1})
		reads(t, what+": behind one", files(t, map[string]string{nameOf(1): headOf(1, 4) + data(4, c1()), nameOf(2): x.s}), []api.Logged{logged(4, c1())}, nil, api.Tail{Kind: x.kind, Segment: 2, Next: 5})
		three := headOf(3, 5) + data(5, c2())
		reads(t, what+": ahead of one", files(t, map[string]string{nameOf(2): x.s, nameOf(3): three}), []api.Logged{logged(5, c2())}, nil, api.Tail{Segment: 3, Offset: len(three), Next: 6})
		reads(t, what+": between two", files(t, map[string]string{nameOf(1): headOf(1, 4) + data(4, c1()), nameOf(2): x.s, nameOf(3): three}), []api.Logged{logged(4, c1()), logged(5, c2())}, nil, api.Tail{Segment: 3, Offset: len(three), Next: 6})
	}
	max := headOf(1, api.MaxTime)
	reads(t, "a first number of MaxTime", log(t, max), nil, nil, api.Tail{Segment: 1, Offset: 24, Next: api.MaxTime})
}

// P11.16, point 3.
func TestReplayGap(t *testing.T) {
	one := headOf(1, 1) + data(1, c1(), c2())
	all := []api.Logged{logged(1, c1()), logged(2, c2())}
	for _, first := range []uint64{1, 2, 4, 99, api.MaxTime} {
		gap := headOf(2, first) + data(first, c3())
		for _, behind := range []string{"", headOf(3, 3) + data(3, c3()), "junk", headOf(3, first+1) + data(first+1, c3())} {
			reads(t, fmt.Sprint("a gap at ", first), log(t, one, gap, behind), all, nil, api.Tail{Kind: api.TailGap, Segment: 2, Next: 3})
		}
	}
	reads(t, "a gap behind an empty segment", log(t, headOf(1, 5), headOf(2, 6)+data(6, c1())), nil, nil, api.Tail{Kind: api.TailGap, Segment: 2, Next: 5})
	reads(t, "a gap ahead of which a head is broken", log(t, one, "junk", headOf(3, 4)), all, nil, api.Tail{Kind: api.TailGap, Segment: 3, Next: 3})
	reads(t, "a broken head is no gap", log(t, one, turned(headOf(2, 9), 0, 1), headOf(3, 3)+data(3, c3())), append(all, logged(3, c3())), nil, api.Tail{Segment: 3, Offset: 24 + len(data(3, c3())), Next: 4})
	reads(t, "a gap without a frame", log(t, one, headOf(2, 4)), all, nil, api.Tail{Kind: api.TailGap, Segment: 2, Next: 3})
}

// P11.16, point 4: how a segment ends; what stands behind it there is not read, the next segment is.
func TestReplayFrames(t *testing.T) {
	good := headOf(1, 1) + data(1, c1())
	at := len(good)
	all := []api.Logged{logged(1, c1())}
	long := commit(4, put("k", strings.Repeat("d", 500)))
	for what, x := range map[string]struct {
		kind int
		s    string
	}{
		"a byte":                       {api.TailTorn, "S"},
		"a torn head":                  {api.TailTorn, data(2, c2())[:23]},
		"a torn body":                  {api.TailTorn, data(2, long)[:60]},
		"other letters":                {api.TailMagic, strings.Repeat("\x00", 24)},
		"a head's sum":                 {api.TailHead, turned(data(2, c2()), 9, 1)},
		"kind 4":                       {api.TailForm, frameOf(4, 2, "x")},
		"Lsn 0":                        {api.TailForm, data(0, c2())},
		"a body's sum":                 {api.TailBody, turned(data(2, c2()), 25, 1)},
		"data of a lesser number":      {api.TailOrder, data(1, c2())},
		"data of a greater number":     {api.TailOrder, data(3, c2())},
		"a mark of a lesser number":    {api.TailOrder, mark(1, 5)},
		"a mark of a greater number":   {api.TailOrder, mark(3, 5)},
		"an end of a lesser number":    {api.TailOrder, end(1)},
		"an end of a greater number":   {api.TailOrder, end(3)},
		"order ahead of a mark's body": {api.TailOrder, mark(3, 0)},
		"order ahead of a body":        {api.TailOrder, frameOf(1, 3, "x")},
		"a mark of 0":                  {api.TailForm, mark(2, 0)},
		"a mark above MaxTime":         {api.TailForm, mark(2, api.MaxTime+1)},
		"the greatest mark":            {api.TailForm, mark(2, math.MaxUint64)},
		"a body that is no Blob":       {api.TailForm, frameOf(1, 2, "\x05")},
		"a body of an empty Blob":      {api.TailForm, frameOf(1, 2, "\x00")},
		"a body with a byte behind":    {api.TailForm, frameOf(1, 2, bodyOf(c2())+"\x01")},
		"a body whose second is none":  {api.TailForm, frameOf(1, 2, bodyOf(c2(), commit(0, del("x"))))},
		"a commit that may not be":     {api.TailForm, data(2, commit(3, put("b", ""), put("a", "")))},
	} {
		for _, behind := range []string{"", data(2, c2()), end(2)} {
			if x.kind == api.TailTorn {
				behind = ""
			}
			bad := good + x.s + behind
			reads(t, what, log(t, bad), all, nil, api.Tail{Kind: x.kind, Segment: 1, Offset: at, Next: 2})
			next := headOf(2, 2) + data(2, c3())
			reads(t, what+": the next segment", log(t, bad, next), append(all, logged(2, c3())), nil, api.Tail{Segment: 2, Offset: len(next), Next: 3})
			reads(t, what+": a gap", log(t, bad, headOf(2, 3)), all, nil, api.Tail{Kind: api.TailGap, Segment: 2, Next: 2})
		}
		reads(t, what+": behind a mark", log(t, good+mark(2, 7)+x.s), all, []uint64{7}, api.Tail{Kind: x.kind, Segment: 1, Offset: at + 32, Next: 2})
	}
}

// Numbers at MaxTime: of the numbers up to MaxTime - 1 each may be a commit's.
func TestReplayAtMaxTime(t *testing.T) {
	first := api.MaxTime - 3
	all := []api.Logged{logged(first, c1()), logged(first+1, c2()), logged(first+2, c3())}
	three := headOf(1, first) + data(first, c1(), c2(), c3())
	reads(t, "just so many", log(t, three), all, nil, api.Tail{Segment: 1, Offset: len(three), Next: api.MaxTime})
	reads(t, "one more in the frame", log(t, headOf(1, first)+data(first, c1(), c2(), c3(), c1())), nil, nil, api.Tail{Kind: api.TailForm, Segment: 1, Offset: 24, Next: first})
	reads(t, "one more in a frame behind", log(t, three+data(api.MaxTime, c1())), all, nil, api.Tail{Kind: api.TailForm, Segment: 1, Offset: len(three), Next: api.MaxTime})
	reads(t, "a mark", log(t, three+mark(api.MaxTime, 5)+end(api.MaxTime)), all, []uint64{5}, api.Tail{Segment: 1, Offset: len(three) + 56, Next: api.MaxTime})
	reads(t, "another segment", log(t, three, headOf(2, api.MaxTime)), all, nil, api.Tail{Segment: 2, Offset: 24, Next: api.MaxTime})
}

// Logs made up by chance of all that may and may not stand in one, against the chapter's five points.
func TestReplayAnything(t *testing.T) {
	r := rand.New(rand.NewSource(2))
	met := map[int]int{}
	for range 6000 {
		d, plain := device(t, api.MaxDevice), newDisk(api.MaxDevice)
		next := 1 + uint64(r.Intn(3))
		if r.Intn(10) == 0 {
			next = api.MaxTime - uint64(r.Intn(8))
		}
		n := r.Intn(3)
		for range r.Intn(5) {
			n += 1 + r.Intn(2)
			first := next
			if r.Intn(12) == 0 {
				first += uint64(r.Intn(3)) - 1
			}
			s := headOf(n, first)
			for range r.Intn(5) {
				lsn := next
				if r.Intn(20) == 0 {
					lsn += uint64(r.Intn(3)) - 1
				}
				switch r.Intn(12) {
				case 0, 1, 2, 3, 4, 5:
					var list []api.Commit
					for range 1 + r.Intn(3) {
						list = append(list, anyCommit(r, uint64(r.Intn(40))))
						next++
					}
					s += data(lsn, list...)
				case 6, 7:
					s += mark(lsn, uint64(r.Intn(10)))
				case 8:
					s += end(lsn)
				case 9:
					s += frameOf(byte(r.Intn(5)), lsn, strings.Repeat("\x00", r.Intn(10)))
				}
			}
			if r.Intn(6) == 0 {
				s = turned(s, r.Intn(len(s)), 1<<r.Intn(8))
			}
			if r.Intn(6) == 0 {
				s = s[:r.Intn(len(s)+1)]
			}
			lay(t, d, nameOf(n), s, 0)
			plain.create(nameOf(n))
			plain.append(nameOf(n), s)
		}
		commits, marks, tail := redo.Replay(d)
		right := plain.replay()
		met[tail.Kind]++
		if fmt.Sprint(commits, marks, tail) != fmt.Sprint(right.commits, right.marks, right.tail) {
			t.Fatalf("P11.16: %v, %v, %v, want %v\n%s", commits, marks, tail, right, look(d))
		}
	}
	for kind := range 8 {
		if met[kind] < 20 {
			t.Errorf("the kinds of tails: %v", met)
		}
	}
}

// P11.17
func TestSince(t *testing.T) {
	s := headOf(1, 5) + data(5, c1(), c2()) + mark(7, 3) + data(7, c3())
	d := log(t, s, headOf(2, 8)+data(8, c1()))
	all := []api.Logged{logged(5, c1()), logged(6, c2()), logged(7, c3()), logged(8, c1())}
	for lsn, from := range map[uint64]int{0: 0, 1: 0, 4: 0, 5: 1, 6: 2, 7: 3, 8: 4, 9: 4, api.MaxTime: 4, math.MaxUint64: 4} {
		for most := 1; most < 6; most++ {
			var list []api.Logged
			for n, c := range redo.Since(d, lsn) {
				list = append(list, logged(n, c))
				if len(list) == most {
					break
				}
			}
			want(t, fmt.Sprintf("P11.17: Since(%d), at most %d", lsn, most), list, all[from:min(4, from+most)])
		}
	}
	for range redo.Since(device(t, 10), 0) {
		t.Error("P11.17: Since of an empty device")
	}
	// the ranging begins where it begins
	seq := redo.Since(d, 6)
	ok(t, "P11.17", d.Append(nameOf(2), data(9, c2())))
	var list []uint64
	for n := range seq {
		list = append(list, n)
		ok(t, "P11.17", d.Remove(nameOf(2)), d.Create(nameOf(2)))
	}
	want(t, "P11.17: what is there when the ranging begins", list, []uint64{7, 8, 9})
	list = nil
	for n := range seq {
		list = append(list, n)
	}
	want(t, "P11.17: ranged over once more", list, []uint64{7})
}

// P11.26: one byte of a log turned: all commits ahead of the frame that it stands in are told.
func TestTurnedLog(t *testing.T) {
	var texts []string
	type frame struct{ segment, from, to, ahead int }
	var frames []frame
	var all []api.Logged
	next := uint64(1)
	for n := 1; n <= 3; n++ {
		s := headOf(n, next)
		frames = append(frames, frame{n, 0, 24, len(all)})
		for size := 1; size <= 3; size++ {
			var list []api.Commit
			before := len(all)
			for range size {
				list = append(list, commit(next+100, put("key", fmt.Sprint(next)), del("z")))
				all = append(all, logged(next, list[len(list)-1]))
				next++
			}
			at := len(s)
			s += data(next-uint64(size), list...)
			frames = append(frames, frame{n, at, len(s), before})
			at = len(s)
			s += mark(next, next)
			frames = append(frames, frame{n, at, len(s), len(all)})
		}
		frames = append(frames, frame{n, len(s), len(s) + 24, len(all)})
		texts = append(texts, s+end(next))
	}
	whole := log(t, texts...)
	told, _, _ := redo.Replay(whole)
	want(t, "P11.26: the whole log", told, all)
	for _, f := range frames {
		for at := f.from; at < f.to; at++ {
			for _, x := range []byte{1, 2, 16, 128, 255, byte(at)*2 + 1} {
				ok(t, "Rot", whole.Rot(nameOf(f.segment), at, x))
				told, _, _ := redo.Replay(whole)
				if len(told) < f.ahead || fmt.Sprint(told[:f.ahead]) != fmt.Sprint(all[:f.ahead]) {
					t.Fatalf("P11.26: segment %d, byte %d turned by %d: %d commits, %d stand ahead", f.segment, at, x, len(told), f.ahead)
				}
				for i, c := range told {
					if c.Lsn != told[0].Lsn+uint64(i) || fmt.Sprint(c) != fmt.Sprint(all[c.Lsn-1]) {
						t.Fatalf("P11.26: segment %d, byte %d turned by %d: commit %d is %v", f.segment, at, x, i, c)
					}
				}
				ok(t, "Rot", whole.Rot(nameOf(f.segment), at, x))
			}
		}
	}
	want(t, "what was turned is turned back", slices.Equal(texts, []string{read(t, whole, nameOf(1)), read(t, whole, nameOf(2)), read(t, whole, nameOf(3))}), true)
}
