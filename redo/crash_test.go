package redo_test

import (
	"fmt"
	"math"
	"strings"
	"testing"

	"strata/api"
	"strata/redo"
)

// changing are all changing calls, each of which is answered OK on a device with the file a.
func changing(d *redo.Device) map[string]func() api.Errno {
	return map[string]func() api.Errno{
		"Create":               func() api.Errno { return d.Create("new") },
		"Append":               func() api.Errno { return d.Append("a", "more") },
		"Append of nothing":    func() api.Errno { return d.Append("a", "") },
		"Sync":                 func() api.Errno { return d.Sync("a") },
		"Rename":               func() api.Errno { return d.Rename("a", "z") },
		"Rename to itself":     func() api.Errno { return d.Rename("a", "a") },
		"Remove":               func() api.Errno { return d.Remove("a") },
		"SyncDir":              func() api.Errno { return d.SyncDir() },
		"Sync of what is kept": func() api.Errno { return d.Sync("b") },
	}
}

// refused are changing calls that are refused for another reason than the power.
func refused(d *redo.Device) map[string]func() api.Errno {
	return map[string]func() api.Errno{
		"Create: name":         func() api.Errno { return d.Create("A") },
		"Create: taken":        func() api.Errno { return d.Create("a") },
		"Append: name":         func() api.Errno { return d.Append("", "") },
		"Append: no file":      func() api.Errno { return d.Append("c", "") },
		"Append: no room":      func() api.Errno { return d.Append("a", strings.Repeat("x", 1001)) },
		"Sync: name":           func() api.Errno { return d.Sync("") },
		"Sync: no file":        func() api.Errno { return d.Sync("c") },
		"Rename: name":         func() api.Errno { return d.Rename("a", "A") },
		"Rename: other name":   func() api.Errno { return d.Rename("A", "a") },
		"Rename: no file":      func() api.Errno { return d.Rename("c", "a") },
		"Rename: to itself":    func() api.Errno { return d.Rename("c", "c") },
		"Remove: name":         func() api.Errno { return d.Remove("A") },
		"Remove: no file":      func() api.Errno { return d.Remove("c") },
		"Read, no such call":   func() api.Errno { _, e := d.Read("c"); return e },
		"Rot, no such call":    func() api.Errno { return d.Rot("a", -1, 1) },
		"Create: name, beside": func() api.Errno { return d.Create("") },
	}
}

// withTwo is a device with the files a (of which a byte is not synced) and b (which is kept), and a change of the directory.
func withTwo(t *testing.T) *redo.Device {
	d := device(t, 1000)
	lay(t, d, "b", "BB", 2)
	ok(t, "SyncDir", d.SyncDir())
	lay(t, d, "a", "AA", 1)
	return d
}

// P11.7
func TestCut(t *testing.T) {
	for what := range changing(nil) {
		for n := range 4 {
			d := withTwo(t)
			ok(t, "P11.7: Cut", d.Cut(n))
			for name, call := range refused(d) {
				if n > 0 && call() == api.OK {
					t.Errorf("%s is not refused", name)
				}
			}
			for range n {
				ok(t, "P11.7: SyncDir ahead of the cut", d.SyncDir())
			}
			before := deep(d)
			want(t, "P11.7: behind the cut, "+what, changing(d)[what](), api.ErrPower)
			for name, call := range changing(d) {
				want(t, "P11.7: behind a refused call, "+name, call(), api.ErrPower)
			}
			for name, call := range refused(d) {
				if !strings.Contains(name, "no such call") {
					want(t, "P11.7: the power first, "+name, call(), api.ErrPower)
				}
			}
			want(t, "P11.7: nothing has changed", deep(d), before)
			for _, n := range strange() {
				want(t, "P11.7: Cut behind a refused call", d.Cut(n), api.ErrPower)
			}
			ok(t, "P11.8: Crash", d.Crash(0))
			for range 200 {
				ok(t, "P11.7: behind the crash", d.SyncDir())
			}
			ok(t, "P11.7: Cut behind the crash", d.Cut(1), d.SyncDir())
			want(t, "P11.7: the new cut", d.SyncDir(), api.ErrPower)
		}
	}
}

// Each changing call is counted, if it is answered OK.
func TestCutCounts(t *testing.T) {
	for what := range changing(nil) {
		d := withTwo(t)
		ok(t, what, d.Cut(2), changing(d)[what]())
		n, dead := powerOf(d)
		want(t, "P11.7: "+what+" is counted", []any{n, dead}, []any{1, false})
	}
	for what := range refused(nil) {
		d := withTwo(t)
		ok(t, what, d.Cut(2))
		if refused(d)[what]() == api.OK {
			t.Errorf("%s is not refused", what)
		}
		n, dead := powerOf(d)
		want(t, "P11.7: "+what+" is not counted", []any{n, dead}, []any{2, false})
	}
	full := device(t, 10)
	for i := range api.MaxFiles {
		ok(t, "Create", full.Create(fmt.Sprint(i)))
	}
	ok(t, "Cut", full.Cut(1))
	want(t, "P11.7: not counted", full.Create("new"), api.ErrSpace)
	ok(t, "P11.7", full.SyncDir())
	want(t, "P11.7", full.Create("new"), api.ErrPower)
	d := withTwo(t)
	ok(t, "P11.7", d.Cut(1), d.Rot("a", 0, 1), d.Rot("a", 0, 1))
	d.List()
	d.Room()
	d.Changes()
	read(t, d, "a")
	d.Copy()
	n, _ := powerOf(d)
	want(t, "P11.7: what changes nothing is not counted, nor is Rot", n, 1)
	ok(t, "P11.7", d.SyncDir())
	want(t, "P11.7", d.SyncDir(), api.ErrPower)
	want(t, "P11.9: Rot needs no power", d.Rot("a", 0, 1), api.OK)
}

func TestLastCutHolds(t *testing.T) {
	for _, first := range []int{-5, 0, 1, 3} {
		for _, n := range strange() {
			d := withTwo(t)
			ok(t, "P11.7", d.Cut(7), d.Cut(first), d.Cut(n))
			left := 100
			if n >= 0 {
				left = min(n, 100)
			}
			have, dead := powerOf(d)
			want(t, fmt.Sprintf("P11.7: Cut(%d) behind Cut(%d)", n, first), []any{have, dead}, []any{left, false})
		}
	}
}

// P11.8
func TestCrashDirectories(t *testing.T) {
	d := device(t, 1000)
	lay(t, d, "a", "A", 1)
	lay(t, d, "b", "B", 1)
	lay(t, d, "c", "C", 1)
	ok(t, "P11.8", d.SyncDir(), d.Rename("a", "b"), d.Remove("c"))
	lay(t, d, "c", "new", 3)
	ok(t, "P11.8", d.Rename("b", "x"), d.Rename("x", "a"))
	lay(t, d, "y", "gone", 4)
	ok(t, "P11.8", d.Remove("y"), d.Rename("c", "c"))
	want(t, "P11.8: Changes", d.Changes(), 7)
	for dir, right := range map[int]string{
		math.MinInt: "aA bB cC", -1: "aA bB cC", 0: "aA bB cC", 1: "bA cC", 2: "bA", 3: "bA cnew", 4: "cnew xA", 5: "aA cnew", 6: "aA cnew ygone", 7: "aA cnew", 8: "aA cnew", math.MaxInt: "aA cnew",
	} {
		c := d.Copy()
		ok(t, "P11.8", c.Crash(dir))
		text := ""
		for _, f := range c.List() {
			text += " " + f.Name + read(t, c, f.Name)
			want(t, "P11.8: all is synced", f.Synced, f.Size)
		}
		want(t, fmt.Sprintf("P11.8: Crash(%d)", dir), text[1:], right)
		want(t, "P11.8: no changes", c.Changes(), 0)
		again := look(c)
		for _, dir := range []int{0, 1, 9} {
			ok(t, "P11.8", c.Crash(dir))
			want(t, "P11.8: a second crash finds nothing to lose", look(c), again)
		}
	}
}

func TestCrashBytes(t *testing.T) {
	build := func() *redo.Device {
		d := device(t, 1000)
		lay(t, d, "c", "abcdef", 2)
		lay(t, d, "a", "123", 0)
		lay(t, d, "b", "xyz", 3)
		ok(t, "P11.8", d.SyncDir())
		lay(t, d, "aa", "new", 1)
		return d
	}
	for _, x := range []struct {
		dir   int
		keep  []int
		right string
	}{
		{0, nil, " bxyz cab"},
		{0, []int{}, " bxyz cab"},
		{0, []int{2}, "12 bxyz cab"},
		{0, []int{3, 3, 3}, "123 bxyz cabcde"},
		{0, []int{-1, math.MinInt, 4}, " bxyz cabcdef"},
		{0, []int{4, 1, 5}, "123 bxyz cabcdef"},
		{0, []int{math.MaxInt, math.MaxInt, math.MaxInt, math.MaxInt}, "123 bxyz cabcdef"},
		{0, []int{0, 0, 1, 1, 1, 1}, " bxyz cabc"},
		{1, []int{1, 1}, "1 aane bxyz cab"},
		{1, []int{0, 0, 0, 1}, " aan bxyz cabc"},
		{9, []int{0, 2, 2}, " aanew bxyz cab"},
		{-9, []int{0, 2, 2}, " bxyz cabcd"},
	} {
		d := build()
		ok(t, "P11.8", d.Crash(x.dir, x.keep...))
		text := ""
		for _, f := range d.List() {
			text += " " + f.Name + read(t, d, f.Name)
			want(t, "P11.8: all that is left is synced", f.Synced, f.Size)
		}
		want(t, fmt.Sprintf("P11.8: Crash(%d, %v)", x.dir, x.keep), text, " a"+x.right)
		// what is written later does not meet what was lost
		ok(t, "P11.8", d.Append("a", "Z"), d.Append("c", "Z"), d.Sync("c"))
		before := read(t, d, "c")
		ok(t, "P11.8", d.Crash(0))
		want(t, "P11.8: written behind a crash", read(t, d, "c"), before)
	}
}

// A file that was removed is back with the bytes and the synced count that it had.
func TestRemovedFileComesBack(t *testing.T) {
	d := device(t, 1000)
	lay(t, d, "a", "abcdef", 3)
	ok(t, "P11.8", d.SyncDir(), d.Remove("a"))
	lay(t, d, "a", "other", 5)
	c := d.Copy()
	ok(t, "P11.8", d.Crash(0, 2), c.Crash(2, 2))
	want(t, "P11.8: back", read(t, d, "a"), "abcde")
	want(t, "P11.8: the other", read(t, c, "a"), "other")
	// gone for good, if the directory was synced
	ok(t, "P11.8", d.Remove("a"), d.SyncDir(), d.Crash(0, 9))
	want(t, "P11.8: gone", look(d), "0 changes, room 1000, 1024")
	// one that was renamed over is back too
	d = device(t, 1000)
	lay(t, d, "a", "A", 1)
	lay(t, d, "b", "B", 1)
	ok(t, "P11.8", d.SyncDir(), d.Rename("a", "b"), d.Append("b", "A"), d.Sync("b"), d.Crash(0))
	want(t, "P11.8: what a file got under another name", []string{read(t, d, "a"), read(t, d, "b")}, []string{"AA", "B"})
}

// P11.9
func TestRot(t *testing.T) {
	d := device(t, 100)
	lay(t, d, "a", "abc", 2)
	ok(t, "P11.9", d.Create("empty"))
	for _, at := range strange() {
		right := api.ErrPlace
		if at >= 0 && at < 3 {
			right = api.OK
		}
		want(t, fmt.Sprintf("P11.9: Rot(a, %d)", at), d.Rot("a", at, 0), right)
	}
	want(t, "P11.9: a turn by nothing", look(d), "a 2/3 0 \"abc\"\nempty 0/0 0 \"\"\n2 changes, room 97, 1022")
	want(t, "P11.9: no byte", d.Rot("empty", 0, 1), api.ErrPlace)
	want(t, "P11.9: no file ahead of no place", d.Rot("b", -1, 1), api.ErrNoFile)
	ok(t, "P11.9", d.Rot("a", 0, 0xff), d.Rot("a", 2, 1))
	want(t, "P11.9", look(d), "a 2/3 0 \"\\x9ebb\"\nempty 0/0 0 \"\"\n2 changes, room 97, 1022")
	ok(t, "P11.9", d.Crash(9))
	want(t, "P11.9: synced as it was", read(t, d, "a"), "\x9eb")
	ok(t, "P11.9", d.Rot("a", 0, 0xff))
	want(t, "P11.9: turned back", read(t, d, "a"), "ab")
}

// P11.10
func TestCopy(t *testing.T) {
	build := func() *redo.Device {
		d := device(t, 1000)
		lay(t, d, "a", "abcdef", 3)
		lay(t, d, "b", "B", 1)
		ok(t, "P11.10", d.SyncDir(), d.Remove("a"), d.Rename("b", "a"), d.Create("b"), d.Append("b", "new"), d.Remove("b"), d.Create("b"))
		return d
	}
	for _, cut := range []int{-1, 0, 3, 200} {
		d := build()
		ok(t, "P11.10", d.Cut(cut))
		c := d.Copy()
		want(t, "P11.10: a copy", deep(c), deep(d))
		n, dead := powerOf(d)
		m, also := powerOf(c)
		want(t, "P11.10: the cut of a copy", []any{m, also}, []any{n, dead})
		if cut == 0 {
			want(t, "P11.10", d.SyncDir(), api.ErrPower)
			m, also = powerOf(d.Copy())
			want(t, "P11.10: a copy without power", []any{m, also}, []any{0, true})
			m, also = powerOf(c)
			want(t, "P11.10: the other still has none, and was not refused", []any{m, also}, []any{0, false})
		}
	}
	// nothing is shared: all that is done to one of them is not seen in the other
	for _, other := range []func(d *redo.Device){
		func(d *redo.Device) { d.Append("a", "x"); d.Append("b", "y"); d.Sync("a") },
		func(d *redo.Device) { d.Rot("a", 0, 1) },
		func(d *redo.Device) { d.SyncDir() },
		func(d *redo.Device) { d.Create("c"); d.Rename("a", "d"); d.Remove("b") },
		func(d *redo.Device) { d.Cut(0); d.SyncDir() },
		func(d *redo.Device) { d.Crash(0, 1); d.Rot("a", 0, 1); d.Append("a", "xxx"); d.Append("b", "xxx") },
		func(d *redo.Device) { d.Crash(4, 1, 1); d.Rot("b", 0, 1) },
		func(d *redo.Device) {
			redo.Open(d, api.LogOptions{Segment: 256, Batch: 1})
		},
	} {
		d := build()
		c := d.Copy()
		before := deep(d)
		other(c)
		want(t, "P11.10: the first", deep(d), before)
		c = d.Copy()
		other(d)
		want(t, "P11.10: the copy", deep(c), before)
		n, dead := powerOf(c)
		want(t, "P11.10: the copy's power", []any{n, dead}, []any{100, false})
	}
	// the limit
	d := device(t, 7)
	ok(t, "P11.10", d.Create("a"))
	c := d.Copy()
	ok(t, "P11.10", c.Append("a", "1234567"))
	want(t, "P11.10: the limit", c.Append("a", "8"), api.ErrSpace)
	ok(t, "P11.10", d.Append("a", "1234567"))
}

// One file that stands in several directories is one in a copy's too.
func TestCopyKeepsOneFileOne(t *testing.T) {
	d := device(t, 100)
	lay(t, d, "a", "A", 1)
	ok(t, "P11.10", d.SyncDir(), d.Rename("a", "b"))
	c := d.Copy()
	ok(t, "P11.10", c.Append("b", "X"), c.Sync("b"), c.Crash(0))
	want(t, "P11.10: what it got under its other name", read(t, c, "a"), "AX")
}
