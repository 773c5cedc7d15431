package redo_test

import (
	"fmt"
	"math"
	"slices"
	"strings"
	"testing"

	"strata/api"
	"strata/redo"
)

// P11.1
func TestNewDevice(t *testing.T) {
	for _, limit := range strange() {
		d, e := redo.NewDevice(limit)
		if limit < 1 || limit > 1048576 {
			if d != nil || e != api.ErrArg {
				t.Errorf("P11.1: NewDevice(%d): %v, %d", limit, d != nil, e)
			}
			continue
		}
		if d == nil || e != api.OK {
			t.Fatalf("P11.1: NewDevice(%d): %v, %d", limit, d != nil, e)
		}
		want(t, "P11.1: a new device", look(d), fmt.Sprintf("0 changes, room %d, 1024", limit))
	}
	d := device(t, api.MaxDevice)
	ok(t, "P11.1", d.Create("a"), d.Append("a", strings.Repeat("x", api.MaxDevice)))
	want(t, "P11.1: beyond MaxDevice", d.Append("a", "x"), api.ErrSpace)
	for range 10000 {
		ok(t, "P11.7: no cut", d.SyncDir())
	}
	d = device(t, 1)
	ok(t, "P11.1", d.Create("a"), d.Append("a", "x"))
	want(t, "P11.1: beyond 1", d.Append("a", "x"), api.ErrSpace)
}

// names are texts that are no file names, and some that are.
func wrongNames() []string {
	wrong := []string{"", strings.Repeat("a", 33), strings.Repeat("a", 1000), "\x00", "ä"}
	for b := range 256 {
		if !strings.Contains("abcdefghijklmnopqrstuvwxyz0123456789.-_", string([]byte{byte(b)})) {
			s := string([]byte{byte(b)})
			wrong = append(wrong, s, "a"+s, s+"a", "a"+s+"a")
		}
	}
	return wrong
}

func rightNames() []string {
	right := []string{strings.Repeat("a", 32), ".", "..", "-", "_", "0", "log-000001", "manifest-00000001", "-.-_-"}
	for _, c := range "abcdefghijklmnopqrstuvwxyz0123456789.-_" {
		right = append(right, "x"+string(c))
	}
	return right
}

func TestFileNames(t *testing.T) {
	d := device(t, 100)
	ok(t, "Create", d.Create("a"))
	before := deep(d)
	for _, name := range wrongNames() {
		want(t, fmt.Sprintf("Create(%q)", name), d.Create(name), api.ErrName)
		want(t, fmt.Sprintf("Append(%q)", name), d.Append(name, strings.Repeat("x", 200)), api.ErrName)
		want(t, fmt.Sprintf("Sync(%q)", name), d.Sync(name), api.ErrName)
		want(t, fmt.Sprintf("Rename(%q, a)", name), d.Rename(name, "a"), api.ErrName)
		want(t, fmt.Sprintf("Rename(a, %q)", name), d.Rename("a", name), api.ErrName)
		want(t, fmt.Sprintf("Rename(b, %q)", name), d.Rename("b", name), api.ErrName)
		want(t, fmt.Sprintf("Rename(%q, itself)", name), d.Rename(name, name), api.ErrName)
		want(t, fmt.Sprintf("Remove(%q)", name), d.Remove(name), api.ErrName)
		want(t, fmt.Sprintf("Rot(%q)", name), d.Rot(name, -1, 1), api.ErrName)
		s, e := d.Read(name)
		want(t, fmt.Sprintf("Read(%q)", name), []any{s, e}, []any{"", api.ErrName})
	}
	want(t, "what was refused changed nothing", deep(d), before)
	for _, name := range rightNames() {
		for _, call := range []api.Errno{d.Append(name, ""), d.Sync(name), d.Rename(name, "a"), d.Rename(name, name), d.Remove(name), d.Rot(name, 0, 1)} {
			want(t, "no file "+name, call, api.ErrNoFile)
		}
		s, e := d.Read(name)
		want(t, "Read of no file "+name, []any{s, e}, []any{"", api.ErrNoFile})
		ok(t, name, d.Create(name), d.Append(name, ""), d.Sync(name), d.Rename(name, "b"), d.Rename("b", name), d.Remove(name))
	}
}

// P11.2
func TestCreate(t *testing.T) {
	d := device(t, 10)
	ok(t, "P11.2", d.Create("b"), d.Append("b", "x"))
	want(t, "P11.2: taken", d.Create("b"), api.ErrTaken)
	want(t, "P11.2", look(d), "b 0/1 0 \"x\"\n1 changes, room 9, 1023")
	ok(t, "P11.2", d.Create("a"))
	want(t, "P11.2", look(d), "a 0/0 0 \"\"\nb 0/1 0 \"x\"\n2 changes, room 9, 1022")
	ok(t, "P11.2: a name that is free again", d.Remove("b"), d.Create("b"))
	want(t, "P11.2: a new file is empty", read(t, d, "b"), "")
	for i := 2; i < api.MaxFiles; i++ {
		ok(t, "P11.2", d.Create(fmt.Sprint("f", i)))
	}
	want(t, "P11.2: MaxFiles files", []int{len(d.List()), d.Changes()}, []int{1024, 1026})
	for dir, files := range map[int]int{0: 0, 3: 1, 4: 2, 500: 498, 1025: 1023, 1026: 1024, 2000: 1024} {
		c := d.Copy()
		ok(t, "P11.8", c.Crash(dir))
		want(t, "P11.8: among many changes", len(c.List()), files)
	}
	before := look(d)
	want(t, "P11.2: one more", d.Create("g"), api.ErrSpace)
	want(t, "P11.2: the name first", d.Create("G"), api.ErrName)
	want(t, "P11.2: taken ahead of no room", d.Create("f7"), api.ErrTaken)
	want(t, "P11.2: nothing changed", look(d), before)
	_, files := d.Room()
	want(t, "P11.6: Room", files, 0)
	ok(t, "P11.2: a place is free again", d.Remove("f9"), d.Create("g"))
	want(t, "P11.2: a rename needs no place", d.Rename("g", "h"), api.OK)
	want(t, "P11.2: one more", d.Create("g"), api.ErrSpace)
}

// P11.3
func TestAppend(t *testing.T) {
	d := device(t, 10)
	ok(t, "P11.3", d.Create("a"), d.Create("b"), d.Append("a", "123"), d.Sync("a"), d.Append("a", "45"), d.Append("b", "6789"))
	want(t, "P11.3", look(d), "a 3/5 0 \"12345\"\nb 0/4 0 \"6789\"\n2 changes, room 1, 1022")
	want(t, "P11.3: one byte more", d.Append("b", "xy"), api.ErrSpace)
	want(t, "P11.3: no file ahead of no room", d.Append("c", "xy"), api.ErrNoFile)
	want(t, "P11.3: nothing was appended", look(d), "a 3/5 0 \"12345\"\nb 0/4 0 \"6789\"\n2 changes, room 1, 1022")
	ok(t, "P11.3: what just fits", d.Append("a", "x"))
	want(t, "P11.3", look(d), "a 3/6 0 \"12345x\"\nb 0/4 0 \"6789\"\n2 changes, room 0, 1022")
	ok(t, "P11.3: nothing", d.Append("a", ""), d.Append("b", ""))
	want(t, "P11.3: a byte", d.Append("b", "y"), api.ErrSpace)
	ok(t, "P11.3: room that a removed file leaves", d.Remove("b"), d.Append("a", "4444"))
	want(t, "P11.3", look(d), "a 3/10 0 \"12345x4444\"\n3 changes, room 0, 1023")
}

// P11.4
func TestSync(t *testing.T) {
	d := device(t, 100)
	ok(t, "P11.4", d.Create("a"), d.Create("b"), d.Append("a", "123"), d.Append("b", "4"), d.Sync("a"))
	want(t, "P11.4: one file alone", look(d), "a 3/3 0 \"123\"\nb 0/1 0 \"4\"\n2 changes, room 96, 1022")
	ok(t, "P11.4", d.Append("a", "5"), d.SyncDir())
	want(t, "P11.4: the directory alone", look(d), "a 3/4 0 \"1235\"\nb 0/1 0 \"4\"\n0 changes, room 95, 1022")
	ok(t, "P11.4", d.Sync("a"), d.Sync("a"), d.SyncDir())
	c := d.Copy()
	ok(t, "P11.4", c.Crash(0))
	want(t, "P11.4", look(c), "a 4/4 0 \"1235\"\nb 0/0 0 \"\"\n0 changes, room 96, 1022")
}

// P11.5
func TestRename(t *testing.T) {
	d := device(t, 100)
	ok(t, "P11.5", d.Create("a"), d.Create("b"), d.Append("a", "A"), d.Sync("a"), d.Append("a", "A"), d.Append("b", "B"), d.SyncDir())
	ok(t, "P11.5: to its own name", d.Rename("a", "a"))
	want(t, "P11.5: nothing happens", look(d), "a 1/2 0 \"AA\"\nb 0/1 0 \"B\"\n0 changes, room 97, 1022")
	ok(t, "P11.5", d.Rename("a", "c"))
	want(t, "P11.5", look(d), "b 0/1 0 \"B\"\nc 1/2 0 \"AA\"\n1 changes, room 97, 1022")
	want(t, "P11.5: the old name is no one's", d.Rename("a", "c"), api.ErrNoFile)
	want(t, "P11.5: of none to its own name", d.Rename("a", "a"), api.ErrNoFile)
	ok(t, "P11.5: over a file", d.Rename("c", "b"))
	want(t, "P11.5", look(d), "b 1/2 0 \"AA\"\n2 changes, room 98, 1023")
	ok(t, "P11.5", d.Append("b", "C"), d.Create("c"))
	want(t, "P11.5", look(d), "b 1/3 0 \"AAC\"\nc 0/0 0 \"\"\n3 changes, room 97, 1022")
}

func TestRemove(t *testing.T) {
	d := device(t, 100)
	ok(t, "P11.5", d.Create("a"), d.Create("b"), d.Append("a", "AA"), d.SyncDir(), d.Remove("a"))
	want(t, "P11.5", look(d), "b 0/0 0 \"\"\n1 changes, room 100, 1023")
	want(t, "P11.5: again", d.Remove("a"), api.ErrNoFile)
	want(t, "P11.5: no change", d.Changes(), 1)
	ok(t, "P11.5", d.Remove("b"))
	want(t, "P11.5", look(d), "2 changes, room 100, 1024")
}

// P11.6
func TestLooks(t *testing.T) {
	d := device(t, 1000)
	all := string(slices.Collect(func(yield func(byte) bool) {
		for b := range 256 {
			if !yield(byte(b)) {
				return
			}
		}
	}))
	lay(t, d, "b", all, 256)
	lay(t, d, "a-", "x", 0)
	lay(t, d, "a", "", 0)
	lay(t, d, "a.", all+all, 300)
	want(t, "P11.6: Read", read(t, d, "a."), all+all)
	want(t, "P11.6: List", d.List(), []api.FileInfo{{Name: "a"}, {Name: "a-", Size: 1}, {Name: "a.", Size: 512, Synced: 300}, {Name: "b", Size: 256, Synced: 256}})
	bytes, files := d.Room()
	want(t, "P11.6: Room", []int{bytes, files, d.Changes()}, []int{231, 1020, 4})
	for _, x := range none(t) {
		s, e := x.Read("A")
		bytes, files := x.Room()
		want(t, "P11.6: no device", []any{s, e, len(x.List()), bytes, files, x.Changes()}, []any{"", api.ErrNil, 0, 0, 0, 0})
	}
}

// Room goes below 0 where a crash brings back what the directory had, with bytes that came later.
func TestRoomBelowNothing(t *testing.T) {
	d := device(t, 100)
	lay(t, d, "a", strings.Repeat("a", 60), 60)
	ok(t, "P11.6", d.Create("b"), d.SyncDir(), d.Remove("a"), d.Append("b", strings.Repeat("b", 100)), d.Sync("b"), d.Crash(0))
	bytes, files := d.Room()
	want(t, "P11.6: Room behind a crash", []int{bytes, files}, []int{-60, 1022})
	want(t, "P11.3: not even nothing", d.Append("a", ""), api.ErrSpace)
	want(t, "P11.3: no number is too great", d.Append("a", strings.Repeat("x", 200)), api.ErrSpace)
	ok(t, "P11.2: an empty file needs no byte", d.Create("c"))
	l, tail, e := redo.Open(d, api.LogOptions{Segment: 256, Batch: 1})
	want(t, "P11.18: no room", []any{l == nil, tail, e}, []any{true, api.Tail{Next: 1}, api.ErrSpace})
	ok(t, "P11.3", d.Remove("b"), d.Append("a", strings.Repeat("x", 40)))
	bytes, _ = d.Room()
	want(t, "P11.6: Room", bytes, 0)
}

// A method of what is no device, whatever it is asked.
func TestNoDevice(t *testing.T) {
	for _, d := range none(t) {
		for i, e := range []api.Errno{d.Create("a"), d.Create(""), d.Append("a", "x"), d.Append("", ""), d.Sync("a"), d.Sync(""), d.Rename("a", "b"), d.Rename("", ""), d.Remove("a"), d.Remove(""), d.SyncDir(), d.Cut(0), d.Create("a"), d.Cut(-1), d.Crash(0), d.Crash(math.MaxInt, 1, 2), d.Rot("a", 0, 1), d.Rot("", -1, 0)} {
			want(t, fmt.Sprint("a method of no device, ", i), e, api.ErrNil)
		}
		want(t, "P11.10: Copy of no device", d.Copy() == nil, true)
		commits, marks, tail := redo.Replay(d)
		want(t, "P11.16: Replay of no device", []any{len(commits), len(marks), tail}, []any{0, 0, api.Tail{Next: 1}})
		for range redo.Since(d, 0) {
			t.Error("P11.17: Since of no device")
		}
		for _, o := range []api.LogOptions{{Segment: 256, Batch: 1}, {}} {
			l, tail, e := redo.Open(d, o)
			want(t, "P11.18: Open of no device", []any{l == nil, tail, e}, []any{true, api.Tail{}, api.ErrNil})
		}
	}
}
