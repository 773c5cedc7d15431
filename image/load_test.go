package image_test

import (
	"fmt"
	"slices"
	"testing"

	"strata/api"
	"strata/image"
)

// two are the pairs of a checkpoint: b of the first is gone.
func two() []api.FilePair {
	return []api.FilePair{
		{Id: 2, Lo: 0, Hi: 7, Data: []api.Datum{datum(3, "a", "1"), datum(3, "b", "2"), datum(7, "c", "3")}, Gen: 4, Gone: []api.Erasure{erasure(3, 9, "b")}},
		{Id: 5, Lo: 7, Hi: 12, Data: []api.Datum{datum(9, "b", "4")}},
	}
}

func twoRows() []api.Row { return []api.Row{row("a", "1", 3), row("b", "4", 9), row("c", "3", 7)} }

// base tells its files: data-2, delta-2-4, data-5, manifest-6.
func base() []api.File { return listed(6, 7, 13, two()...) }

// old tells the files of an older checkpoint, under other numbers.
func old() []api.File {
	return listed(3, 2, 3, api.FilePair{Id: 1, Lo: 0, Hi: 3, Data: []api.Datum{datum(3, "o", "old")}})
}

func manifestOf(t *testing.T, fs []api.File) api.Manifest {
	t.Helper()
	m, e := plainManifest(fs[len(fs)-1].Bytes)
	if e != api.OK {
		t.Fatalf("a manifest of the test: %d", e)
	}
	return m
}

// loads looks whether files are read as that checkpoint.
func loads(t *testing.T, what string, fs []api.File, rows []api.Row, m api.Manifest, code api.Errno) {
	t.Helper()
	got, list, e := image.Load(fs)
	want(t, "P12.9: "+what, []any{got, list, e}, []any{rows, m, code})
}

// P12.9: whole ones, in any order of the files, with others beside them.
func TestLoad(t *testing.T) {
	m := manifestOf(t, base())
	loads(t, "a whole one", base(), twoRows(), m, api.OK)
	turned := base()
	slices.Reverse(turned)
	loads(t, "in another order", turned, twoRows(), m, api.OK)
	loads(t, "with an older one", append(base(), old()...), twoRows(), m, api.OK)
	loads(t, "with an older one first", append(old(), base()...), twoRows(), m, api.OK)
	loads(t, "with files that are nobody's", append(base(), api.File{Name: "data-00000001", Bytes: "x"}, api.File{Name: "notes"}, api.File{Name: "delta-00000005-00000006", Bytes: "x"}), twoRows(), m, api.OK)
	loads(t, "an older delta file beside it", append(base(), api.File{Name: "delta-00000002-00000003", Bytes: "x"}), twoRows(), m, api.OK)
	loads(t, "an empty one", listed(1, 1, 0), nil, api.Manifest{Gen: 1, Next: 1}, api.OK)
	loads(t, "of the last generation", listed(99999999, 1, 0), nil, api.Manifest{Gen: 99999999, Next: 1}, api.OK)
	for what, fs := range map[string][]api.File{
		"nothing": nil, "no manifest": base()[:3], "under its first name alone": {{Name: "tmp-manifest-00000006", Bytes: base()[3].Bytes}},
		"generation 0":     {{Name: "manifest-00000000", Bytes: manifestBytes(api.Manifest{Gen: 1, Next: 1})}},
		"seven digits":     {{Name: "manifest-0000001", Bytes: listed(1, 1, 0)[0].Bytes}},
		"nine digits":      {{Name: "manifest-000000001", Bytes: listed(1, 1, 0)[0].Bytes}},
		"no digits":        {{Name: "manifest-", Bytes: listed(1, 1, 0)[0].Bytes}},
		"a letter":         {{Name: "manifest-0000000a", Bytes: listed(1, 1, 0)[0].Bytes}},
		"a sign":           {{Name: "manifest-+0000001", Bytes: listed(1, 1, 0)[0].Bytes}},
		"something ahead":  {{Name: "xmanifest-00000001", Bytes: listed(1, 1, 0)[0].Bytes}},
		"something behind": {{Name: "manifest-00000001x", Bytes: listed(1, 1, 0)[0].Bytes}},
		"great letters":    {{Name: "MANIFEST-00000001", Bytes: listed(1, 1, 0)[0].Bytes}},
	} {
		loads(t, what, fs, nil, api.Manifest{}, api.OK)
	}
}

// P12.9: of several files of one name the first counts.
func TestFirstOfOneName(t *testing.T) {
	for i, f := range base() {
		bad := api.File{Name: f.Name, Bytes: "bad"}
		loads(t, "the right one first: "+f.Name, append(base(), bad), twoRows(), manifestOf(t, base()), api.OK)
		loads(t, "the wrong one first: "+f.Name, slices.Insert(base(), i, bad), nil, api.Manifest{}, api.ErrMissing)
		loads(t, "the wrong one first, and an older: "+f.Name, append(slices.Insert(base(), 0, bad), old()...), []api.Row{row("o", "old", 3)}, manifestOf(t, old()), api.OK)
	}
}

// notWhole looks whether a checkpoint is not read: none is, or an older one.
func notWhole(t *testing.T, what string, fs []api.File) {
	t.Helper()
	loads(t, what, fs, nil, api.Manifest{}, api.ErrMissing)
	loads(t, what+", with an older one", append(slices.Clone(fs), old()...), []api.Row{row("o", "old", 3)}, manifestOf(t, old()), api.OK)
	im, e := image.Resume(1, fs)
	want(t, "P12.10: "+what, []any{im == nil, e}, []any{true, api.ErrMissing})
}

// P12.9: each reason for which a manifest is not whole: files that are not there, or not to be read.
func TestNotWholeFiles(t *testing.T) {
	for i, f := range base() {
		if i < 3 {
			notWhole(t, "without "+f.Name, slices.Delete(base(), i, i+1))
		}
		for at := range len(f.Bytes) {
			fs := base()
			b := []byte(f.Bytes)
			b[at] ^= 1
			fs[i].Bytes = string(b)
			loads(t, fmt.Sprint(f.Name, " with byte ", at, " turned"), fs, nil, api.Manifest{}, api.ErrMissing)
		}
		fs := base()
		fs[i].Bytes = ""
		notWhole(t, "an empty "+f.Name, fs)
		fs = base()
		fs[i].Name = "x-" + f.Name
		if i < 3 {
			notWhole(t, "under another name: "+f.Name, fs)
		}
	}
	fs := base()
	fs[3].Name = "manifest-00000007"
	notWhole(t, "a manifest whose Gen is below its name's", fs)
	fs[3].Name = "manifest-00000005"
	notWhole(t, "a manifest whose Gen is above its name's", fs)
	fs = base()
	fs[1].Name = "delta-00000002-00000003"
	notWhole(t, "the delta file of another generation", fs)
	fs = base()
	fs[0].Bytes, fs[1].Bytes = fs[1].Bytes, fs[0].Bytes
	notWhole(t, "data and delta in each other's place", fs)
}

// said gives the base's files with a manifest that says other things of them.
func said(change func(m *api.Manifest)) []api.File {
	fs := base()
	m, _ := plainManifest(fs[3].Bytes)
	change(&m)
	fs[3].Bytes = manifestBytes(m)
	return fs
}

// P12.9: each reason: what the manifest says, and what the files say.
func TestNotWholeNames(t *testing.T) {
	for what, change := range map[string]func(m *api.Manifest){
		"another DataSum":              func(m *api.Manifest) { m.Pairs[0].DataSum++ },
		"DataSum 0":                    func(m *api.Manifest) { m.Pairs[1].DataSum = 0 },
		"another DeltaSum":             func(m *api.Manifest) { m.Pairs[0].DeltaSum ^= 1 << 31 },
		"another Lo":                   func(m *api.Manifest) { m.Pairs[0].Lo = 1 },
		"another Lo of the second":     func(m *api.Manifest) { m.Pairs[1].Lo = 8 },
		"another Hi":                   func(m *api.Manifest) { m.Pairs[1].Hi = 13 },
		"a row more":                   func(m *api.Manifest) { m.Pairs[1].Rows++ },
		"a row less":                   func(m *api.Manifest) { m.Pairs[0].Rows-- },
		"an erasure more":              func(m *api.Manifest) { m.Pairs[0].Gone++ },
		"no delta file":                func(m *api.Manifest) { m.Pairs[0].Gen, m.Pairs[0].Gone, m.Pairs[0].DeltaSum = 0, 0, 0 }, // b stands twice then
		"a delta file of another pair": func(m *api.Manifest) { m.Pairs[1].Gen, m.Pairs[1].Gone = 4, 1 },
		"another Id":                   func(m *api.Manifest) { m.Pairs[0].Id = 1 },
		"each other's Ids":             func(m *api.Manifest) { m.Pairs[0].Id, m.Pairs[1].Id = 5, 2 },
		"an Upto below an End":         func(m *api.Manifest) { m.Upto, m.Pairs = 8, m.Pairs[:1] },
	} {
		fs := said(change)
		if _, e := plainManifest(fs[3].Bytes); e != api.OK {
			t.Errorf("the manifest of %q itself: %d", what, e)
		}
		notWhole(t, what, fs)
	}
	fs := said(func(m *api.Manifest) { m.Upto, m.Pairs = 9, m.Pairs[:1] })
	loads(t, "an Upto at an End", fs, []api.Row{row("a", "1", 3), row("c", "3", 7)}, manifestOf(t, fs), api.OK)
	fs = said(func(m *api.Manifest) { m.Pairs = m.Pairs[1:] })
	loads(t, "a pair less", fs, []api.Row{row("b", "4", 9)}, manifestOf(t, fs), api.OK)
}

// forged gives the files of the base, with right sums, after other has changed what stands in the two data files and in the delta file; of the last the manifest tells nothing else than before.
func forged(other func(one, two, delta *api.FilePair)) []api.File {
	one, two, delta := two()[0], two()[1], two()[0]
	other(&one, &two, &delta)
	fs := base()
	m, _ := plainManifest(fs[3].Bytes)
	fs[0].Bytes, fs[1].Bytes, fs[2].Bytes = dataBytes(one), deltaBytes(delta), dataBytes(two)
	m.Pairs[0].DataSum, m.Pairs[0].DeltaSum, m.Pairs[1].DataSum = endSum(fs[0].Bytes), endSum(fs[1].Bytes), endSum(fs[2].Bytes)
	fs[3].Bytes = manifestBytes(m)
	return fs
}

// P12.9: each reason: files of right sums that say other things.
func TestNotWholeContents(t *testing.T) {
	type pair = api.FilePair
	for what, other := range map[string]func(one, two, delta *pair){
		"another Id within data":           func(_, two, _ *pair) { two.Id = 6 },
		"another Lo within data":           func(_, two, _ *pair) { two.Lo = 6 },
		"another Hi within data":           func(_, two, _ *pair) { two.Hi = 13 },
		"a datum more":                     func(_, two, _ *pair) { two.Data = append(two.Data, datum(10, "z", "")) },
		"a datum less":                     func(_, two, _ *pair) { two.Data = nil },
		"another Id within a delta":        func(_, _, delta *pair) { delta.Id = 3 },
		"another Gen within a delta":       func(_, _, delta *pair) { delta.Gen = 3 },
		"an erasure more":                  func(_, _, delta *pair) { delta.Gone = append(delta.Gone, erasure(7, 8, "c")) },
		"an End above Upto":                func(_, _, delta *pair) { delta.Gone[0].End = 14 },
		"one key stands in two pairs":      func(_, two, _ *pair) { two.Data[0].Key = "a" },
		"one key stands in one pair twice": func(one, _, _ *pair) { one.Data[2].Key = "a" },
		"what is gone is another":          func(_, _, delta *pair) { delta.Gone[0].Key = "a" },
		"a data file that may not be":      func(_, two, _ *pair) { two.Data[0].Key = "" },
		"a delta file that may not be":     func(_, _, delta *pair) { delta.Gone[0].End = 3 },
		"a data file without its range":    func(_, two, _ *pair) { two.Data[0].Begin = 13 },
	} {
		notWhole(t, what, forged(other))
	}
	// with another key in the second pair none stands twice, whatever is gone: just the erasure is wrong
	for what, g := range map[string]api.Erasure{
		"another Begin, below":    erasure(2, 9, "b"),
		"another Begin, above":    erasure(4, 9, "b"),
		"another key, below":      erasure(3, 9, "aa"),
		"another key, above":      erasure(3, 9, "bb"),
		"ahead of all":            erasure(1, 9, "a"),
		"behind all":              erasure(8, 9, "z"),
		"of another pair's datum": erasure(9, 10, "z"),
	} {
		notWhole(t, "an erasure of no datum: "+what, forged(func(_, two, delta *pair) { two.Data[0].Key, delta.Gone[0] = "z", g }))
	}
	for what, gone := range map[string][]api.Erasure{
		"the second of two": {erasure(3, 9, "b"), erasure(7, 9, "cc")},
		"the first of two":  {erasure(2, 9, "b"), erasure(3, 9, "b")},
		"the third":         {erasure(3, 9, "a"), erasure(3, 9, "b"), erasure(7, 9, "a")},
	} {
		pairs := two()
		pairs[0].Gone = gone
		notWhole(t, "an erasure of no datum: "+what, listed(6, 7, 13, pairs...))
	}
	fs := forged(func(_, two, delta *pair) { two.Data[0].Key, delta.Gone[0] = "z", erasure(3, 9, "a") })
	loads(t, "an erasure of another datum", fs, []api.Row{row("b", "2", 3), row("c", "3", 7), row("z", "4", 9)}, manifestOf(t, fs), api.OK)
	fs = forged(func(_, _, delta *pair) { delta.Gone[0].End = 13 })
	loads(t, "an End at Upto", fs, twoRows(), manifestOf(t, fs), api.OK)
	fs = forged(func(one, _, delta *pair) { one.Data[1].Data, delta.Gone[0].End = "other", 4 })
	loads(t, "another datum that is gone", fs, twoRows(), manifestOf(t, fs), api.OK)
}

// P12.9: the whole manifest with the greatest generation counts, not the last in the list.
func TestGreatestWhole(t *testing.T) {
	var fs []api.File
	for _, gen := range []int{10, 9, 100, 11} {
		fs = append(fs, listed(gen, 1, uint64(gen))...)
	}
	loads(t, "four", fs, nil, api.Manifest{Gen: 100, Next: 1, Upto: 100}, api.OK)
	fs[2].Bytes = "x"
	loads(t, "of which one is not whole", fs, nil, api.Manifest{Gen: 11, Next: 1, Upto: 11}, api.OK)
	fs[3].Bytes, fs[0].Bytes = fs[0].Bytes, fs[3].Bytes
	loads(t, "of which three are not whole", fs, nil, api.Manifest{Gen: 9, Next: 1, Upto: 9}, api.OK)
	fs[1].Bytes = "x"
	loads(t, "of which none is whole", fs, nil, api.Manifest{}, api.ErrMissing)
}
