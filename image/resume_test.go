package image_test

import (
	"fmt"
	"testing"

	"strata/api"
	"strata/image"
)

// P12.10: the fill, and the order of errors.
func TestResumeFill(t *testing.T) {
	for _, fill := range strange() {
		for what, fs := range map[string][]api.File{"whole": base(), "none": nil, "not whole": base()[1:]} {
			im, e := image.Resume(fill, fs)
			right := api.OK
			switch {
			case fill < 1 || fill > 4096:
				right = api.ErrFill
			case what == "not whole":
				right = api.ErrMissing
			}
			want(t, fmt.Sprint("P12.10: Resume ", fill, " ", what), []any{im != nil, e}, []any{right == api.OK, right})
		}
	}
	im := resumed(t, 2, base()...)
	absorb(t, im, commit(20, put("x", "")), commit(21, put("y", "")), commit(22, put("z", "")))
	want(t, "P12.10: the fill is the new one", names(closed(t, im, 30)), []string{"data-00000007", "data-00000008", "manifest-00000007"})
}

// P12.10: what Load tells.
func TestResume(t *testing.T) {
	im := resumed(t, 3, base()...)
	want(t, "P12.10", state(im), fmt.Sprintf("13 0 %+v %+v", two(), twoRows()))
	want(t, "P12.10: Upto holds", []any{answer(im.Absorb(commit(13, put("x", "")))), answer(im.Absorb(commit(14, put("b", "5"))))}, []any{fmt.Sprint("0 ", api.ErrStamp), "1 0"})
	fs := closed(t, im, 14)
	pairs := two()
	pairs[1].Gen, pairs[1].Gone = 7, []api.Erasure{erasure(9, 14, "b")}
	pairs = append(pairs, api.FilePair{Id: 7, Lo: 12, Hi: 14, Data: []api.Datum{datum(14, "b", "5")}})
	right := listed(7, 8, 14, pairs...)
	want(t, "P12.10: it goes on, and the old files are named as they are", fs, []api.File{right[3], right[4], right[5]})
	loads(t, "the old and the new files", append(base(), fs...), []api.Row{row("a", "1", 3), row("b", "5", 14), row("c", "3", 7)}, manifestOf(t, fs), api.OK)
	im = resumed(t, 3, old()...)
	want(t, "P12.10", state(im), fmt.Sprintf("3 0 %+v %+v", []api.FilePair{{Id: 1, Lo: 0, Hi: 3, Data: []api.Datum{datum(3, "o", "old")}}}, []api.Row{row("o", "old", 3)}))
	im = resumed(t, 3)
	want(t, "P12.10: of nothing", state(im), "0 0 [] []")
}

// firstNames tells the names of the first pair and generation that an image of files gives out.
func firstNames(t *testing.T, fs ...api.File) string {
	t.Helper()
	im := resumed(t, 1, fs...)
	absorb(t, im, commit(api.MaxTime, put("new", "")))
	return fmt.Sprint(names(closed(t, im, api.MaxTime)))
}

// P12.10: the next numbers, beside files of other numbers than the manifest's.
func TestResumeNumbers(t *testing.T) {
	for _, c := range []struct {
		names []string
		right string
	}{
		{nil, "[data-00000007 manifest-00000007]"},
		{[]string{"data-00000006"}, "[data-00000007 manifest-00000007]"},
		{[]string{"data-00000007"}, "[data-00000008 manifest-00000007]"},
		{[]string{"data-00000050", "data-00000020"}, "[data-00000051 manifest-00000007]"},
		{[]string{"delta-00000050-00000002"}, "[data-00000051 manifest-00000007]"},
		{[]string{"delta-00000002-00000050"}, "[data-00000007 manifest-00000051]"},
		{[]string{"delta-00000060-00000050"}, "[data-00000061 manifest-00000051]"},
		{[]string{"tmp-manifest-00000077", "tmp-manifest-00000008"}, "[data-00000007 manifest-00000078]"},
		{[]string{"manifest-00000077"}, "[data-00000007 manifest-00000078]"},
		{[]string{"data-99999998", "tmp-manifest-99999998"}, "[data-99999999 manifest-99999999]"},
		{[]string{"data-5", "data-000000050", "data-0000005x", "data-", "data-00000050-", "xdata-00000050", "tmp-data-00000050", "DATA-00000050", "data-+0000050", "data_00000050", ""}, "[data-00000007 manifest-00000007]"},
		{[]string{"delta-00000050", "delta-00000050-", "delta-00000050-0000005", "delta-00000050-000000050", "delta-0000050-00000050", "delta-00000050-00000000", "delta-00000000-00000050", "delta-00000050-00000050-", "delta-00000050-00000050-00000001", "delta-0000005000000050", "tmp-delta-00000050-00000050", "delta-00000050_00000050", "delta--00000050-00000050", "delta-0000005a-00000050", "delta-00000050-0000005a"}, "[data-00000007 manifest-00000007]"},
		{[]string{"tmp-tmp-manifest-00000050", "tmp-00000050", "tmp-manifest-", "tmp-manifest-0000050", "tmp-manifest-000000050", "tmp-manifest-00000050.", "tmp_manifest-00000050", "manifest-0000050", "manifest-000000050", " manifest-00000050", "manifest-00000050 "}, "[data-00000007 manifest-00000007]"},
		{[]string{"log-000050", "notes", "data-00000000", "manifest-00000000", "tmp-manifest-00000000"}, "[data-00000007 manifest-00000007]"},
	} {
		var fs []api.File
		for _, name := range c.names {
			fs = append(fs, api.File{Name: name, Bytes: "?"})
		}
		want(t, fmt.Sprintf("P12.10: beside %q", c.names), firstNames(t, append(fs, base()...)...), c.right)
	}
	want(t, "P12.10: the manifest's Next is greater", firstNames(t, listed(4, 30, 0)...), "[data-00000030 manifest-00000005]")
	want(t, "P12.10: neither", firstNames(t), "[data-00000001 manifest-00000001]")
	want(t, "P12.10: no manifest", firstNames(t, api.File{Name: "data-00000009"}, api.File{Name: "tmp-manifest-00000004"}), "[data-00000010 manifest-00000005]")
	want(t, "P12.10: an older one is whole", firstNames(t, append(old(), base()[1:]...)...), "[data-00000006 manifest-00000007]")
}
