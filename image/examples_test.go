package image_test

import (
	"fmt"
	"testing"

	"strata/api"
	"strata/image"
)

// The chapter's example, line by line.
func TestExample(t *testing.T) {
	im := made(t, 2)
	want(t, "Absorb", answer(im.Absorb(commit(5, put("a", "1"), put("b", "2")), commit(9, put("a", "3")), commit(7, del("b")))), "3 0")
	one := api.FilePair{Id: 1, Lo: 0, Hi: 5, Data: []api.Datum{datum(5, "a", "1"), datum(5, "b", "2")}, Gen: 1, Gone: []api.Erasure{erasure(5, 7, "b")}}
	fs := closed(t, im, 7)
	want(t, "Close(7)", fs, listed(1, 2, 7, one))
	want(t, "Close(7)", names(fs), []string{"data-00000001", "delta-00000001-00000001", "manifest-00000001"})
	want(t, "Close(7)", state(im), fmt.Sprintf("7 1 %+v %+v", []api.FilePair{one}, []api.Row{row("a", "1", 5)}))
	all := fs

	one.Gen, one.Gone = 2, []api.Erasure{erasure(5, 9, "a"), erasure(5, 7, "b")}
	two := api.FilePair{Id: 2, Lo: 5, Hi: 9, Data: []api.Datum{datum(9, "a", "3")}}
	fs = closed(t, im, 9)
	right := listed(2, 3, 9, one, two)
	want(t, "Close(9)", fs, right[1:])
	want(t, "Close(9)", names(fs), []string{"delta-00000001-00000002", "data-00000002", "manifest-00000002"})
	want(t, "Close(9)", state(im), fmt.Sprintf("9 0 %+v %+v", []api.FilePair{one, two}, []api.Row{row("a", "3", 9)}))
	all = append(all, fs...)
	loads(t, "both", all, []api.Row{row("a", "3", 9)}, manifestOf(t, fs), api.OK)

	three := api.FilePair{Id: 3, Lo: 0, Hi: 9, Data: []api.Datum{datum(9, "a", "3")}}
	ok(t, "Merge(0)", im.Merge(0))
	want(t, "Merge(0)", im.Pairs(), []api.FilePair{three})
	fs = closed(t, im, 9)
	want(t, "Close(9) again", fs, listed(3, 4, 9, three))
	want(t, "Close(9) again", names(fs), []string{"data-00000003", "manifest-00000003"})
	refused(t, im, 8, api.ErrStamp)
	want(t, "Absorb", answer(im.Absorb(commit(9, put("c", "")))), fmt.Sprint("0 ", api.ErrStamp))

	// the bytes of the first data file, by hand: 5 is the first Begin less Lo 0
	b, e := image.EncodeData(api.FilePair{Id: 1, Lo: 0, Hi: 5, Data: one.Data})
	want(t, "EncodeData", []any{b, e}, []any{seal("STRADAT1\x01\x00\x05\x02\x05\x01a\x011\x00\x01b\x012"), api.OK})
	b, e = image.EncodeDelta(api.FilePair{Id: 1, Gen: 2, Gone: one.Gone})
	want(t, "EncodeDelta", []any{b, e}, []any{seal("STRADEL1\x01\x02\x02\x05\x04\x01a\x00\x02\x01b"), api.OK})
	b, e = image.EncodeManifest(api.Manifest{Gen: 2, Next: 3, Upto: 9, Pairs: []api.PairName{{Id: 1, Hi: 5, Rows: 2, Gen: 2, Gone: 2, DataSum: 0x01020304, DeltaSum: 0xff}, {Id: 2, Lo: 5, Hi: 9, Rows: 1}}})
	want(t, "EncodeManifest", []any{b, e}, []any{seal("STRAMAN1\x02\x03\x09\x02\x01\x00\x05\x02\x02\x02\x04\x03\x02\x01\xff\x00\x00\x00\x02\x00\x04\x01\x00\x00\x00\x00\x00\x00\x00\x00\x00\x00"), api.OK})
}
