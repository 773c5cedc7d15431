package image_test

import (
	"fmt"
	"slices"
	"sort"
	"testing"

	"strata/api"
	"strata/image"
	"strata/redo"
)

// ourNames are names of this layer's files, by name.
func ourNames() []string {
	list := []string{"data-00000001", "data-00000010", "data-99999999", "delta-00000001-00000001", "delta-00000001-99999999", "delta-99999999-00000001", "manifest-00000001", "manifest-99999999", "tmp-manifest-00000001", "tmp-manifest-99999999"}
	sort.Strings(list)
	return list
}

// otherNames are near them, and names that a device takes.
func otherNames() []string {
	return []string{
		"data-", "data-1", "data-0000001", "data-000000001", "data-00000000", "data-0000000a", "data-00000001.", "xdata-00000001", "data_00000001", "data00000001", "tmp-data-00000001", "data-0000-001",
		"delta-00000001", "delta-00000001-", "delta-00000001-0000001", "delta-00000001-000000001", "delta-0000001-00000001", "delta-000000001-00000001", "delta-00000000-00000001", "delta-00000001-00000000", "delta-0000000100000001", "delta-00000001_00000001", "tmp-delta-00000001-00000001", "delta-00000001-0000000x",
		"manifest-", "manifest-00000000", "manifest-0000001", "manifest-000000001", "manifest-0000000-", "manifest", "xmanifest-00000001", "manifest-00000001-00000001",
		"tmp-", "tmp-manifest-", "tmp-manifest-00000000", "tmp-manifest-0000001", "tmp-manifest-000000001", "tmp-tmp-manifest-00000001", "tmp-00000001", "tmp.manifest-00000001",
		"log-000001", "notes", "a", "zz",
	}
}

// P12.11
func TestFiles(t *testing.T) {
	want(t, "P12.11: of no device", len(image.Files(nil)), 0)
	d := device(t, 10000)
	want(t, "P12.11: of an empty device", len(image.Files(d)), 0)
	list := append(ourNames(), otherNames()...)
	for i := range list {
		name := list[(i*37)%len(list)] // in no order
		ok(t, name, d.Create(name), d.Append(name, "of "+name))
	}
	before := deep(d)
	var right []api.File
	for _, name := range ourNames() {
		right = append(right, api.File{Name: name, Bytes: "of " + name})
	}
	want(t, "P12.11", image.Files(d), right)
	want(t, "P12.11: nothing changes", deep(d), before)
}

// rubbish is a device with the base's checkpoint, an older one, what else is not needed, and other files.
func rubbish(t *testing.T) *redo.Device {
	d := device(t, 10000)
	lay(t, d, base()...)
	lay(t, d, old()...)
	for _, name := range append(otherNames(), "tmp-manifest-00000006", "tmp-manifest-00000001", "data-00000099", "delta-00000002-00000003", "delta-00000002-00000005", "delta-00000005-00000004", "manifest-00000007") {
		lay(t, d, api.File{Name: name, Bytes: "of " + name})
	}
	return d
}

// needless are those of its files that are not the base's, by name.
func needless() []string {
	return []string{"data-00000001", "data-00000099", "delta-00000002-00000003", "delta-00000002-00000005", "delta-00000005-00000004", "manifest-00000003", "manifest-00000007", "tmp-manifest-00000001", "tmp-manifest-00000006"}
}

// P12.13: what is removed, and what is not.
func TestClean(t *testing.T) {
	d := rubbish(t)
	want(t, "P12.13", answer(image.Clean(d)), "9 0")
	right := base()
	sort.Slice(right, func(i, j int) bool { return right[i].Name < right[j].Name })
	want(t, "P12.13: the checkpoint's files stay", image.Files(d), right)
	for _, name := range otherNames() {
		s, e := d.Read(name)
		want(t, "P12.13: others are not touched: "+name, []any{s, e}, []any{"of " + name, api.OK})
	}
	want(t, "P12.13: the directory is durable", d.Changes(), 0)
	before := deep(d)
	want(t, "P12.13: again", []any{answer(image.Clean(d)), deep(d)}, []any{"0 0", before})
	loads(t, "behind a Clean", image.Files(d), twoRows(), manifestOf(t, base()), api.OK)
}

// P12.13: its errors, with nothing removed.
func TestCleanErrors(t *testing.T) {
	want(t, "P12.13: no device", answer(image.Clean(nil)), fmt.Sprint("0 ", api.ErrNil))
	for what, c := range map[string]struct {
		fs []api.File
		e  api.Errno
	}{
		"nothing":            {nil, api.OK},
		"no manifest":        {append(base()[:3], api.File{Name: "tmp-manifest-00000006", Bytes: base()[3].Bytes}), api.OK},
		"a manifest alone":   {base()[3:], api.ErrMissing},
		"none that is whole": {append(base()[1:], api.File{Name: "manifest-00000002"}, api.File{Name: "data-00000077"}), api.ErrMissing},
	} {
		d := device(t, 10000)
		lay(t, d, c.fs...)
		ok(t, "Create", d.Create("volatile"))
		before := deep(d)
		want(t, "P12.13: "+what, []any{answer(image.Clean(d)), deep(d)}, []any{fmt.Sprint("0 ", c.e), before})
		ok(t, "Cut", d.Cut(0))
		want(t, "P12.13: without power: "+what, []any{answer(image.Clean(d)), deep(d)}, []any{fmt.Sprint("0 ", c.e), before})
		_, dead := powerOf(d)
		want(t, "P12.13: no call is made: "+what, dead, false)
	}
	d := device(t, 10000)
	lay(t, d, base()...)
	ok(t, "Create, Cut", d.Create("volatile"), d.Cut(0))
	want(t, "P12.13: nothing to be removed, no call", []any{answer(image.Clean(d)), d.Changes()}, []any{"0 0", 1})
	_, dead := powerOf(d)
	want(t, "P12.13: no call is made", dead, false)
}

// P12.13: an older manifest is the newest that is whole.
func TestCleanToAnOlderOne(t *testing.T) {
	d := device(t, 10000)
	lay(t, d, base()[1:]...)
	lay(t, d, old()...)
	want(t, "P12.13", answer(image.Clean(d)), "3 0")
	want(t, "P12.13", names(image.Files(d)), []string{"data-00000001", "manifest-00000003"})
}

// P12.13: the calls of the device, by a Cut behind each.
func TestCutsOfClean(t *testing.T) {
	var calls []call
	for _, name := range needless() {
		calls = append(calls, removeCall(name))
	}
	calls = append(calls, syncDirCall())
	for n := range len(calls) + 3 {
		d := rubbish(t)
		twin := d.Copy()
		ok(t, "Cut", d.Cut(n))
		told := answer(image.Clean(d))
		for _, c := range calls[:min(n, len(calls))] {
			ok(t, c.what, c.make(twin))
		}
		left, dead := powerOf(d)
		right := []any{fmt.Sprint(min(n, 9), " ", api.ErrPower), deep(twin), 0, true}
		if n >= len(calls) {
			right = []any{"9 0", deep(twin), n - len(calls), false}
		}
		want(t, fmt.Sprint("P12.13: cut behind ", n), []any{told, deep(d), left, dead}, right)
		// and whatever a crash keeps of it, the checkpoint is there
		for dir := range d.Changes() + 1 {
			c := d.Copy()
			ok(t, "Crash", c.Crash(dir))
			loads(t, "behind a Clean that was cut", image.Files(c), twoRows(), manifestOf(t, base()), api.OK)
		}
	}
	want(t, "the test's list is by name", slices.IsSorted(needless()), true)
}
