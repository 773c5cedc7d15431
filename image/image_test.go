package image_test

import (
	"fmt"
	"math"
	"slices"
	"testing"

	"strata/api"
	"strata/image"
)

// P12.4
func TestNew(t *testing.T) {
	for _, fill := range append(strange(), 100) {
		im, e := image.New(fill)
		if fill < 1 || fill > 4096 {
			want(t, fmt.Sprint("P12.4: New ", fill), []any{im == nil, e}, []any{true, api.ErrFill})
			continue
		}
		want(t, fmt.Sprint("P12.4: New ", fill), []any{state(im), e}, []any{"0 0 [] []", api.OK})
		absorb(t, im, commit(1, put("a", "")))
		want(t, "P12.4: the first numbers", names(closed(t, im, 1)), []string{"data-00000001", "manifest-00000001"})
	}
}

// longList is a commit with that many puts.
func longList(stamp uint64, n int) api.Commit {
	c := commit(stamp)
	for i := range n {
		c.Writes = append(c.Writes, put(fmt.Sprintf("%04d", i), ""))
	}
	return c
}

// P12.5: commits that may be, in any order, and such as may not.
func TestAbsorb(t *testing.T) {
	im := made(t, 2)
	want(t, "P12.5: none", answer(im.Absorb()), "0 0")
	want(t, "P12.5: in any order", answer(im.Absorb(commit(9, put("a", "")), commit(1, del("b")), commit(api.MaxTime, put("a", "")), commit(5, put("a", "")))), "4 0")
	want(t, "P12.8", im.Pending(), 4)
	closed(t, im, 5)
	want(t, "P12.8", []any{im.Pending(), im.Upto()}, []any{2, 5})
	for what, c := range map[string]struct {
		list []api.Commit
		n    int
		e    api.Errno
	}{
		"a Stamp of 0":                     {[]api.Commit{commit(0, put("a", ""))}, 0, api.ErrRecord},
		"above MaxTime":                    {[]api.Commit{commit(api.MaxTime+1, put("a", ""))}, 0, api.ErrRecord},
		"no writes":                        {[]api.Commit{commit(7)}, 0, api.ErrRecord},
		"MaxWrites + 1 writes":             {[]api.Commit{longList(7, 129)}, 0, api.ErrRecord},
		"keys that fall":                   {[]api.Commit{commit(7, put("b", ""), put("a", ""))}, 0, api.ErrRecord},
		"one key twice":                    {[]api.Commit{commit(7, put("b", ""), del("b"))}, 0, api.ErrRecord},
		"an empty key":                     {[]api.Commit{commit(7, put("", ""))}, 0, api.ErrRecord},
		"a key too long":                   {[]api.Commit{commit(7, del(longKey(161)))}, 0, api.ErrRecord},
		"data too long":                    {[]api.Commit{commit(7, put("a", longKey(513)))}, 0, api.ErrRecord},
		"a delete with data":               {[]api.Commit{commit(7, api.Write{Kind: 2, Key: "a", Data: "x"})}, 0, api.ErrRecord},
		"another kind":                     {[]api.Commit{commit(7, api.Write{Kind: 3, Key: "a"})}, 0, api.ErrRecord},
		"a Stamp at Upto":                  {[]api.Commit{commit(5, put("a", ""))}, 0, api.ErrStamp},
		"a Stamp below Upto":               {[]api.Commit{commit(1, put("a", ""))}, 0, api.ErrStamp},
		"ErrRecord ahead of ErrStamp":      {[]api.Commit{commit(5)}, 0, api.ErrRecord},
		"a Stamp that is pending":          {[]api.Commit{commit(9, put("z", ""))}, 0, api.ErrStamp},
		"one that is pending and wrong":    {[]api.Commit{commit(9, put("", ""))}, 0, api.ErrRecord},
		"the last Stamp, which is pending": {[]api.Commit{commit(api.MaxTime, put("z", ""))}, 0, api.ErrStamp},
		"the second of three":              {[]api.Commit{commit(7, put("a", "")), commit(8), commit(9, put("a", ""))}, 1, api.ErrRecord},
		"the third of three":               {[]api.Commit{commit(8, put("a", "")), commit(6, put("a", "")), commit(5, put("a", ""))}, 2, api.ErrStamp},
		"one Stamp twice in a call":        {[]api.Commit{commit(8, put("a", "")), commit(7, put("b", "")), commit(8, put("c", "")), commit(6, put("c", ""))}, 2, api.ErrStamp},
	} {
		x := resumed(t, 2, listed(1, 1, 5)...)
		absorb(t, x, commit(9, put("a", "")), commit(api.MaxTime, put("a", "")))
		n, e := x.Absorb(c.list...)
		want(t, "P12.5: "+what, []any{n, e, x.Pending()}, []any{c.n, c.e, 2 + c.n})
		closed(t, x, 8)
		want(t, "P12.5: those ahead of it are taken: "+what, x.Rows(), replayed(c.list[:c.n], 8))
	}
	want(t, "P12.5: at the bounds", answer(made(t, 1).Absorb(longList(1, 128), commit(2, put(longKey(160), longKey(512))))), "2 0")
}

func answer(n int, e api.Errno) string { return fmt.Sprint(n, " ", e) }

// P12.6: which upto may be.
func TestCloseUpto(t *testing.T) {
	im := made(t, 2)
	absorb(t, im, commit(5, put("a", "1")), commit(9, put("b", "2")))
	want(t, "P12.6: at Upto 0", names(closed(t, im, 0)), []string{"manifest-00000001"})
	want(t, "P12.6", []any{im.Upto(), im.Pending()}, []any{0, 2})
	want(t, "P12.6: below all", names(closed(t, im, 4)), []string{"manifest-00000002"})
	closed(t, im, 5)
	want(t, "P12.6", []any{im.Upto(), im.Pending(), im.Rows()}, []any{5, 1, []api.Row{row("a", "1", 5)}})
	before := state(im)
	for _, upto := range []uint64{0, 4, api.MaxTime + 1, 1 << 63, math.MaxUint64} {
		fs, e := im.Close(upto)
		want(t, fmt.Sprint("P12.6: Close ", upto), []any{fs, e, state(im)}, []any{[]api.File(nil), api.ErrStamp, before})
	}
	want(t, "P12.6: at Upto", names(closed(t, im, 5)), []string{"manifest-00000004"})
	want(t, "P12.6: at MaxTime", names(closed(t, im, api.MaxTime)), []string{"data-00000002", "manifest-00000005"})
	want(t, "P12.6", []any{im.Upto(), im.Pending()}, []any{api.MaxTime, 0})
	want(t, "P12.6: at MaxTime again", names(closed(t, im, api.MaxTime)), []string{"manifest-00000006"})
	want(t, "P12.5: nothing is above", answer(im.Absorb(commit(api.MaxTime, put("c", "")))), fmt.Sprint("0 ", api.ErrStamp))
}

// P12.6: a Close without pending commits makes a manifest that says the same of all pairs.
func TestCloseOfNothing(t *testing.T) {
	im := made(t, 1)
	fs := closed(t, im, 7)
	want(t, "P12.6: an empty one", fs, []api.File{{Name: "manifest-00000001", Bytes: manifestBytes(api.Manifest{Gen: 1, Next: 1, Upto: 7})}})
	absorb(t, im, commit(8, put("a", "1")), commit(9, put("a", "2")))
	first, _ := image.DecodeManifest(closed(t, im, 9)[3].Bytes)
	fs = closed(t, im, 9)
	m, e := image.DecodeManifest(fs[0].Bytes)
	want(t, "P12.6: another", []any{len(fs), fs[0].Name, m.Gen, m.Next, m.Upto, m.Pairs, e}, []any{1, "manifest-00000003", 3, 3, 9, first.Pairs, api.OK})
	want(t, "P12.6: the pair's Gen stays", []any{m.Pairs[0].Gen, m.Pairs[1].Gen}, []any{2, 0})
}

// P12.6: a key that is put, deleted and put again, within one Close and over several.
func TestOneKey(t *testing.T) {
	cs := []api.Commit{commit(1, put("a", "1")), commit(2, del("a")), commit(3, del("a")), commit(4, put("a", "4")), commit(5, put("a", "5")), commit(6, del("b"))}
	im := made(t, 10)
	absorb(t, im, cs...)
	want(t, "P12.6: within one", names(closed(t, im, 6)), []string{"data-00000001", "delta-00000001-00000001", "manifest-00000001"})
	want(t, "P12.6: within one", im.Pairs(), []api.FilePair{{Id: 1, Lo: 0, Hi: 5, Gen: 1,
		Data: []api.Datum{datum(1, "a", "1"), datum(4, "a", "4"), datum(5, "a", "5")},
		Gone: []api.Erasure{erasure(1, 2, "a"), erasure(4, 5, "a")}}})
	want(t, "P12.8", im.Rows(), []api.Row{row("a", "5", 5)})
	im = made(t, 10)
	var told [][]string
	for _, c := range cs {
		absorb(t, im, c)
		told = append(told, names(closed(t, im, c.Stamp)))
	}
	want(t, "P12.6: over several", told, [][]string{
		{"data-00000001", "manifest-00000001"}, {"delta-00000001-00000002", "manifest-00000002"}, {"manifest-00000003"},
		{"data-00000002", "manifest-00000004"}, {"delta-00000002-00000005", "data-00000003", "manifest-00000005"}, {"manifest-00000006"}})
	want(t, "P12.6: over several", im.Pairs(), []api.FilePair{
		{Id: 1, Lo: 0, Hi: 1, Gen: 2, Data: []api.Datum{datum(1, "a", "1")}, Gone: []api.Erasure{erasure(1, 2, "a")}},
		{Id: 2, Lo: 1, Hi: 4, Gen: 5, Data: []api.Datum{datum(4, "a", "4")}, Gone: []api.Erasure{erasure(4, 5, "a")}},
		{Id: 3, Lo: 4, Hi: 5, Data: []api.Datum{datum(5, "a", "5")}}})
	absorb(t, im, commit(7, del("a")))
	closed(t, im, 7)
	want(t, "P12.6: all of all pairs is gone", []any{im.Rows(), len(im.Pairs())}, []any{[]api.Row(nil), 3})
}

// P12.6: a commit fills a pair to the brim and beyond it, and is never split.
func TestFill(t *testing.T) {
	ranges := func(im *image.Image) string {
		text := ""
		for _, p := range im.Pairs() {
			text += fmt.Sprintf("%d: %d..%d %d; ", p.Id, p.Lo, p.Hi, len(p.Data))
		}
		return text
	}
	for _, c := range []struct {
		fill  int
		puts  []int
		right string
	}{
		{3, []int{1, 1}, "1: 0..4 2; "},
		{3, []int{1, 2}, "1: 0..4 3; "},
		{3, []int{1, 2, 1}, "1: 0..4 3; 2: 4..6 1; "},
		{3, []int{2, 2, 1}, "1: 0..4 4; 2: 4..6 1; "},
		{3, []int{3, 3}, "1: 0..2 3; 2: 2..4 3; "},
		{3, []int{7, 1}, "1: 0..2 7; 2: 2..4 1; "},
		{3, []int{2, 0, 1, 0, 0, 1, 0}, "1: 0..6 3; 2: 6..12 1; "},
		{3, []int{0, 0, 2, 0}, "1: 0..6 2; "},
		{1, []int{1, 1, 2}, "1: 0..2 1; 2: 2..4 1; 3: 4..6 2; "},
		{4, []int{0, 0}, ""},
		{4096, []int{128, 128, 128}, "1: 0..6 384; "},
	} {
		im := made(t, c.fill)
		for i, n := range c.puts {
			x := longList(uint64(2*i+2), n)
			if n == 0 {
				x.Writes = []api.Write{del("zzz")}
			}
			absorb(t, im, x)
		}
		closed(t, im, 100)
		want(t, fmt.Sprint("P12.6: fill ", c.fill, " of ", c.puts), ranges(im), c.right)
	}
	im := made(t, 4096)
	for i := range 33 {
		absorb(t, im, longList(uint64(i+1), 127))
	}
	closed(t, im, 100)
	want(t, "P12.6: to MaxFill and beyond", ranges(im), "1: 0..33 4191; ")
	im = made(t, 3)
	for stamp := uint64(1); stamp <= 3; stamp++ {
		absorb(t, im, commit(stamp, put("a", "")))
		closed(t, im, stamp)
	}
	want(t, "P12.6: the end of a Close closes the open pair", ranges(im), "1: 0..1 1; 2: 1..2 1; 3: 2..3 1; ")
	absorb(t, im, commit(9, put("a", "")))
	closed(t, im, 20)
	absorb(t, im, commit(25, put("a", "")))
	closed(t, im, 30)
	want(t, "P12.6: Lo is the last pair's Hi, not Upto", ranges(im), "1: 0..1 1; 2: 1..2 1; 3: 2..3 1; 4: 3..9 1; 5: 9..25 1; ")
}

// P12.6: data that are gone count for the fill.
func TestFillWithGoneData(t *testing.T) {
	im := made(t, 2)
	absorb(t, im, commit(1, put("a", "1")), commit(2, put("a", "2")), commit(3, put("a", "3")))
	want(t, "P12.6", names(closed(t, im, 3)), []string{"data-00000001", "delta-00000001-00000001", "data-00000002", "manifest-00000001"})
	want(t, "P12.6", im.Pairs(), []api.FilePair{
		{Id: 1, Lo: 0, Hi: 2, Gen: 1, Data: []api.Datum{datum(1, "a", "1"), datum(2, "a", "2")}, Gone: []api.Erasure{erasure(1, 2, "a"), erasure(2, 3, "a")}},
		{Id: 2, Lo: 2, Hi: 3, Data: []api.Datum{datum(3, "a", "3")}}})
}

// P12.6: the files, byte by byte.
func TestFilesOfClose(t *testing.T) {
	im := made(t, 2)
	absorb(t, im, commit(5, put("a", "1"), put("b", "2")), commit(9, put("a", "3")), commit(7, del("b")))
	fs := closed(t, im, 9)
	right := listed(1, 3, 9,
		api.FilePair{Id: 1, Lo: 0, Hi: 5, Data: []api.Datum{datum(5, "a", "1"), datum(5, "b", "2")}, Gen: 1, Gone: []api.Erasure{erasure(5, 9, "a"), erasure(5, 7, "b")}},
		api.FilePair{Id: 2, Lo: 5, Hi: 9, Data: []api.Datum{datum(9, "a", "3")}})
	want(t, "P12.6", fs, right)
}

// P12.6: the last numbers, of generations and of pairs, and nothing changed behind a refusal.
func TestNumbers(t *testing.T) {
	im := resumed(t, 1, api.File{Name: "tmp-manifest-99999998"})
	absorb(t, im, commit(1, put("a", "")))
	want(t, "P12.6: the last generation", names(closed(t, im, 1)), []string{"data-00000001", "manifest-99999999"})
	absorb(t, im, commit(2, put("a", "")))
	refused(t, im, 1, api.ErrNumbers)
	refused(t, im, 5, api.ErrNumbers)
	refused(t, im, 0, api.ErrStamp)
	refused(t, im, api.MaxTime+1, api.ErrStamp)

	im = resumed(t, 1, api.File{Name: "data-99999997"})
	absorb(t, im, commit(1, put("a", "")), commit(2, put("b", "")), commit(3, put("c", "")))
	refused(t, im, 3, api.ErrNumbers)
	want(t, "P12.6: two are left", names(closed(t, im, 2)), []string{"data-99999998", "data-99999999", "manifest-00000001"})
	refused(t, im, 3, api.ErrNumbers)
	want(t, "P12.6: no pair is needed", names(closed(t, im, 2)), []string{"manifest-00000002"})
	im = resumed(t, 1, api.File{Name: "delta-99999999-00000004"})
	absorb(t, im, commit(1, del("a")))
	fs := closed(t, im, 1)
	want(t, "P12.6: a delete needs no pair", fs, []api.File{{Name: "manifest-00000005", Bytes: manifestBytes(api.Manifest{Gen: 5, Next: 100000000, Upto: 1})}})
}

// refused looks whether a Close is, with nothing changed.
func refused(t *testing.T, im *image.Image, upto uint64, right api.Errno) {
	t.Helper()
	before := state(im)
	fs, e := im.Close(upto)
	want(t, fmt.Sprint("P12.6: Close ", upto), []any{fs, e, state(im)}, []any{[]api.File(nil), right, before})
}

// P12.6: MaxPairs pairs and one more; ErrNumbers ahead of ErrPairs.
func TestMaxPairs(t *testing.T) {
	im := made(t, 1)
	for i := range 257 {
		absorb(t, im, commit(uint64(i+1), put(fmt.Sprint("k", i), "")))
	}
	refused(t, im, 257, api.ErrPairs)
	refused(t, im, api.MaxTime, api.ErrPairs)
	want(t, "P12.6: MaxPairs", len(closed(t, im, 256)), 257)
	want(t, "P12.6", []any{len(im.Pairs()), im.Pending()}, []any{256, 1})
	refused(t, im, 257, api.ErrPairs)
	closed(t, im, 256)
	absorb(t, im, commit(400, del("k3")))
	ok(t, "P12.7", im.Merge(7))
	closed(t, im, 257)
	want(t, "P12.6: the last place", []any{len(im.Pairs()), im.Pairs()[255].Id}, []any{256, 258})
	fs := closed(t, im, 400)
	want(t, "P12.6: a delete needs no pair", names(fs), []string{"delta-00000004-00000004", "manifest-00000004"})
	im = resumed(t, 1, api.File{Name: "data-99999800"})
	for i := range 257 {
		absorb(t, im, commit(uint64(i+1), put(fmt.Sprint("k", i), "")))
	}
	refused(t, im, 257, api.ErrNumbers)
	im = resumed(t, 1, api.File{Name: "tmp-manifest-99999999"})
	for i := range 257 {
		absorb(t, im, commit(uint64(i+1), put(fmt.Sprint("k", i), "")))
	}
	refused(t, im, 257, api.ErrNumbers)
	im = resumed(t, 1, api.File{Name: "data-99999742"})
	for i := range 257 {
		absorb(t, im, commit(uint64(i+1), put(fmt.Sprint("k", i), "")))
	}
	refused(t, im, 257, api.ErrPairs)
}

// P12.8: Rows by key, whatever the order of the commits.
func TestRows(t *testing.T) {
	im := made(t, 2)
	keys := []string{"b", "\xff", "a", "\x00", "ab", "a\x00", "\x7f", "\x80"}
	for i, key := range keys {
		absorb(t, im, commit(uint64(i+1), put(key, key+"!")))
	}
	closed(t, im, 100)
	slices.Sort(keys)
	var told []string
	for _, r := range im.Rows() {
		told = append(told, r.Key)
		want(t, "P12.8", r.Data, r.Key+"!")
	}
	want(t, "P12.8: by key", fmt.Sprintf("%q", told), fmt.Sprintf("%q", keys))
}
