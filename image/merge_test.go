package image_test

import (
	"fmt"
	"testing"

	"strata/api"
	"strata/image"
)

// four gives an image with four pairs: of the first a half is gone, of the second and third all.
func four(t *testing.T) *image.Image {
	im := made(t, 2)
	absorb(t, im,
		commit(2, put("a", "2"), put("b", "2")),
		commit(4, put("c", "4"), put("d", "4")),
		commit(6, put("e", "6"), put("f", "6")),
		commit(8, del("b"), del("c"), del("d"), put("e", "8"), del("f"), put("g", "8")))
	closed(t, im, 10)
	return im
}

// P12.7: at every place.
func TestMergeAtEveryPlace(t *testing.T) {
	pairs := four(t).Pairs()
	for _, at := range append(strange(), 4, 5) {
		im := four(t)
		before := state(im)
		e := im.Merge(at)
		if at < 0 || at > 2 {
			want(t, fmt.Sprint("P12.7: Merge ", at), []any{e, state(im)}, []any{api.ErrMerge, before})
			continue
		}
		one := api.FilePair{Id: 5, Lo: pairs[at].Lo, Hi: pairs[at+1].Hi}
		switch at {
		case 0:
			one.Data = []api.Datum{datum(2, "a", "2")}
		case 2:
			one.Data = []api.Datum{datum(8, "e", "8"), datum(8, "g", "8")}
		}
		right := append(append(append([]api.FilePair{}, pairs[:at]...), one), pairs[at+2:]...)
		want(t, fmt.Sprint("P12.7: Merge ", at), []any{e, im.Pairs(), im.Rows(), im.Upto()}, []any{api.OK, right, four(t).Rows(), 10})
		fs := closed(t, im, 10)
		want(t, "P12.7: its files come with the next Close", names(fs), []string{"data-00000005", "manifest-00000002"})
		want(t, "P12.7: byte by byte", fs[0].Bytes, dataBytes(one))
		want(t, "P12.7: the manifest of all pairs", fs[1], listed(2, 6, 10, right...)[len(listed(2, 6, 10, right...))-1])
		want(t, "P12.7: they come once", names(closed(t, im, 10)), []string{"manifest-00000003"})
	}
}

// P12.7: no pairs, and one.
func TestMergeOfTooFew(t *testing.T) {
	im := made(t, 2)
	for range 2 {
		for _, at := range strange() {
			want(t, fmt.Sprint("P12.7: Merge ", at), im.Merge(at), api.ErrMerge)
		}
		absorb(t, im, commit(1+im.Upto(), put("a", "")))
		if len(im.Pairs()) == 0 {
			closed(t, im, 1)
		}
	}
}

// P12.7: empty pairs, which stand in the manifest like others, and can be merged on.
func TestMergeOfEmptyPairs(t *testing.T) {
	im := four(t)
	var all []api.File
	ok(t, "P12.7", im.Merge(1))
	fs := closed(t, im, 12)
	want(t, "P12.6: an empty pair's data file", fs[0], api.File{Name: "data-00000005", Bytes: dataBytes(api.FilePair{Id: 5, Lo: 2, Hi: 6})})
	m, _ := image.DecodeManifest(fs[1].Bytes)
	want(t, "P12.6: an empty pair stands in the manifest", fmt.Sprintf("%+v", m.Pairs[1]), fmt.Sprintf("%+v", api.PairName{Id: 5, Lo: 2, Hi: 6, DataSum: endSum(fs[0].Bytes)}))
	ok(t, "P12.7", im.Merge(1))
	want(t, "P12.7", fmt.Sprintf("%+v", im.Pairs()[1]), fmt.Sprintf("%+v", api.FilePair{Id: 6, Lo: 2, Hi: 8, Data: []api.Datum{datum(8, "e", "8"), datum(8, "g", "8")}}))
	ok(t, "P12.7", im.Merge(0))
	want(t, "P12.7: merged twice ahead of a Close", names(closed(t, im, 12)), []string{"data-00000007", "manifest-00000003"})
	absorb(t, im, commit(20, del("a"), del("e"), del("g")))
	closed(t, im, 20)
	absorb(t, im, commit(21, put("x", "")))
	all = append(all, closed(t, im, 21)...)
	ok(t, "P12.7: of one of which all is gone", im.Merge(0))
	want(t, "P12.7", im.Pairs(), []api.FilePair{{Id: 9, Lo: 0, Hi: 21, Data: []api.Datum{datum(21, "x", "")}}})
	absorb(t, im, commit(22, del("x")))
	all = append(all, closed(t, im, 22)...)
	want(t, "P12.6: a merged pair gets both its files", names(all), []string{"data-00000008", "manifest-00000005", "data-00000009", "delta-00000009-00000006", "manifest-00000006"})
	rows, m, e := image.Load(all)
	want(t, "P12.9", []any{rows, m.Gen, e}, []any{[]api.Row(nil), 6, api.OK})
}

// P12.7: what was merged is erased in its new place, and what was gone is gone for good.
func TestMergeAndErase(t *testing.T) {
	im := four(t)
	ok(t, "P12.7", im.Merge(2), im.Merge(1), im.Merge(0))
	want(t, "P12.7", im.Pairs(), []api.FilePair{{Id: 7, Lo: 0, Hi: 8, Data: []api.Datum{datum(2, "a", "2"), datum(8, "e", "8"), datum(8, "g", "8")}}})
	absorb(t, im, commit(11, put("b", "11"), del("e")), commit(12, put("a", "12")))
	closed(t, im, 12)
	want(t, "P12.6", im.Pairs(), []api.FilePair{
		{Id: 7, Lo: 0, Hi: 8, Gen: 2, Data: []api.Datum{datum(2, "a", "2"), datum(8, "e", "8"), datum(8, "g", "8")}, Gone: []api.Erasure{erasure(2, 12, "a"), erasure(8, 11, "e")}},
		{Id: 8, Lo: 8, Hi: 12, Data: []api.Datum{datum(11, "b", "11"), datum(12, "a", "12")}}})
}

// big is a pair with n data whose keys begin with a letter, all with the Begin hi.
func big(id int, letter string, hi uint64, n int) api.FilePair {
	p := api.FilePair{Id: id, Lo: hi - 1, Hi: hi}
	for _, d := range manyData(n) {
		p.Data = append(p.Data, datum(hi, letter+d.Key, ""))
	}
	return p
}

// P12.7: of MaxPairData data, and of one more; those that are gone are not counted.
func TestMergeOfManyData(t *testing.T) {
	im := resumed(t, 1, listed(1, 3, 2, big(1, "a", 1, 65535), big(2, "b", 2, 1))...)
	want(t, "P12.7: MaxPairData data", []any{im.Merge(0), len(im.Pairs()), len(im.Pairs()[0].Data)}, []any{api.OK, 1, 65536})
	files := listed(1, 3, 2, big(1, "a", 1, 65536), big(2, "b", 2, 1))
	im = resumed(t, 1, files...)
	want(t, "P12.7: one more", []any{im.Merge(0), len(im.Pairs())}, []any{api.ErrMerge, 2})
	absorb(t, im, commit(3, del("a000005")))
	closed(t, im, 3)
	want(t, "P12.7: one of them is gone", []any{im.Merge(0), len(im.Pairs()), len(im.Pairs()[0].Data), len(im.Rows())}, []any{api.OK, 1, 65536, 65536})
	want(t, "P12.6: a pair of MaxPairData", names(closed(t, im, 3)), []string{"data-00000003", "manifest-00000003"})
	im = resumed(t, 1, append(files, api.File{Name: "data-99999999"})...)
	want(t, "P12.7: ErrMerge ahead of ErrNumbers", []any{im.Merge(0), im.Merge(7)}, []any{api.ErrMerge, api.ErrMerge})
	absorb(t, im, commit(3, del("a000005")))
	closed(t, im, 3)
	want(t, "P12.7: ErrNumbers", []any{im.Merge(0), len(im.Pairs())}, []any{api.ErrNumbers, 2})
}

// P12.7: the last number.
func TestMergeNumbers(t *testing.T) {
	pairs := []api.FilePair{{Id: 1, Lo: 0, Hi: 1}, {Id: 2, Lo: 1, Hi: 2}, {Id: 3, Lo: 4, Hi: 5}}
	im := resumed(t, 1, append(listed(1, 4, 9, pairs...), api.File{Name: "data-99999998"})...)
	ok(t, "P12.7", im.Merge(1))
	want(t, "P12.7: a gap between ranges is taken in", im.Pairs(), []api.FilePair{{Id: 1, Lo: 0, Hi: 1}, {Id: 99999999, Lo: 1, Hi: 5}})
	before := state(im)
	want(t, "P12.7", []any{im.Merge(0), im.Merge(1), state(im)}, []any{api.ErrNumbers, api.ErrMerge, before})
	fs := closed(t, im, 9)
	m, _ := image.DecodeManifest(fs[1].Bytes)
	want(t, "P12.6: Next is MaxFileNo + 1", []any{names(fs), m.Next}, []any{[]string{"data-99999999", "manifest-00000002"}, 100000000})
}
