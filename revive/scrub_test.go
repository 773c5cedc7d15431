package revive_test

import (
	"fmt"
	"strings"
	"testing"

	"strata/api"
	"strata/image"
	"strata/redo"
	"strata/revive"
)

// scrubs holds Scrub, with every number of workers, against reports.
func scrubs(t *testing.T, what string, d *redo.Device, right ...api.FileReport) {
	t.Helper()
	for workers := 1; workers <= api.MaxWorkers; workers++ {
		list, e := revive.Scrub(d, workers)
		want(t, fmt.Sprintf("P13.6: %s: %d workers", what, workers), []any{list, e}, []any{right, api.OK})
	}
}

// reportOf tells the report of one file of a device.
func reportOf(t *testing.T, d *redo.Device, name string) api.FileReport {
	t.Helper()
	list, e := revive.Scrub(d, 3)
	ok(t, "P13.6: Scrub", e)
	for _, r := range list {
		if r.Name == name {
			return r
		}
	}
	t.Errorf("P13.6: no report of %s", name)
	return api.FileReport{}
}

// P13.6: wrong inputs.
func TestErrorsOfScrub(t *testing.T) {
	d := laid(t, log(1, three()...))
	for _, workers := range strange() {
		right := api.OK
		if workers < 1 || workers > 16 {
			right = api.ErrWorkers
		}
		list, e := revive.Scrub(d, workers)
		want(t, fmt.Sprintf("P13.6: %d workers", workers), []any{len(list) > 0, e}, []any{right == api.OK, right})
		for _, d := range none(t) {
			list, e := revive.Scrub(d, workers)
			want(t, "P13.6: no device", []any{list == nil, e}, []any{true, api.ErrNil})
		}
	}
	scrubs(t, "no files", device(t))
}

// P13.6: the kind hangs on the name alone, and what is no file of a log or a checkpoint has nothing but it.
func TestKinds(t *testing.T) {
	kinds := map[int][]string{
		api.FileSegment:  {"log-000001", "log-999999", "log-012345"},
		api.FileData:     {"data-00000001", "data-99999999", "data-01234567"},
		api.FileDelta:    {"delta-00000001-00000001", "delta-99999999-99999999", "delta-00000001-99999999"},
		api.FileManifest: {"manifest-00000001", "manifest-99999999", "manifest-10000000"},
		api.FileTemp:     {"tmp-manifest-00000001", "tmp-manifest-99999999"},
		api.FileOther: {
			"a", "notes", "-", "log", "log-", "data-", "delta-", "manifest-", "tmp-manifest-", "tmp-", "000001", "00000001",
			"log-000000", "log-00001", "log-0000001", "log-00000001", "log-00000a", "log-1", "log_000001", "xlog-000001", "log-000001.", "log--00001", "log-00001-", "log-000-01", "log-000001-000001", "log-00.001",
			"data-00000000", "data-0000001", "data-000000001", "data-000001", "data-0000000a", "data_00000001", "xdata-00000001", "data-00000001x", "data--0000001", "data-0000-001", "data-00000001-00000001", "tmp-data-00000001",
			"delta-00000001", "delta-00000000-00000001", "delta-00000001-00000000", "delta-00000000-00000000", "delta-0000001-00000001", "delta-00000001-0000001", "delta-000000001-00000001", "delta-00000001-000000001", "delta-00000001_00000001", "delta-00000001-00000001-", "delta-00000001--00000001", "delta-0000000100000001", "delta-0000000a-00000001", "delta-00000001-0000000a",
			"manifest-00000000", "manifest-0000001", "manifest-000000001", "manifest-0000000x", "manifest-00000001-00000001", "manifest-00000001-", "xmanifest-00000001", "manifest.00000001",
			"tmp-manifest-00000000", "tmp-manifest-0000001", "tmp-manifest-000000001", "tmp-tmp-manifest-00000001", "tmpmanifest-00000001", "tmp-manifest-", "tmp_manifest-00000001",
		},
	}
	base := checkpoint(t, 3, three()...)
	for kind, names := range kinds {
		for _, name := range names {
			for _, bytes := range []string{"", "x", base[0].Bytes, base[1].Bytes, head(1, 1)} {
				r := reportOf(t, laid(t, []api.File{{Name: name, Bytes: bytes}}), name)
				want(t, "P13.6: "+name, r.Kind, kind)
				if kind == api.FileOther {
					want(t, "P13.6: "+name, r, report(name, 0, api.OK, 0, false))
				}
			}
		}
	}
	var fs []api.File
	var right []api.FileReport
	for _, name := range []string{"data-00000001", "delta-00000001-00000001", "log-000001", "manifest-00000001", "notes", "tmp-manifest-00000001"} {
		fs = append([]api.File{{Name: name}}, fs...)
		kind, _ := plainKind(name)
		r := report(name, kind, api.ErrTorn, 0, false)
		switch kind {
		case api.FileSegment:
			r = report(name, kind, api.OK, api.TailTorn, true)
		case api.FileOther:
			r.Code = api.OK
		}
		right = append(right, r)
	}
	scrubs(t, "empty files, by name", laid(t, fs), right...)
}

// three generations of one image, with what their files are needed for.
func generations(t *testing.T) [][]api.File {
	im, _ := image.New(2)
	one := closed(t, im, 4, commit(1, put("a", "1"), put("b", "1")), commit(2, put("c", "2"), put("d", "2")), commit(4, del("a")))
	two := closed(t, im, 6, commit(5, put("b", "5")), commit(6, del("c")))
	ok(t, "Merge", im.Merge(0))
	return [][]api.File{one, two, closed(t, im, 8, commit(8, del("b"), put("e", "8")))}
}

// P13.6: the files that the newest whole checkpoint needs, and those that it does not.
func TestNeededFiles(t *testing.T) {
	gens := generations(t)
	good := func(name string, needed bool) api.FileReport {
		kind, _ := plainKind(name)
		return report(name, kind, api.OK, 0, needed)
	}
	scrubs(t, "the first", laid(t, gens[0]), good("data-00000001", true), good("data-00000002", true), good("delta-00000001-00000001", true), good("manifest-00000001", true))
	scrubs(t, "the second", laid(t, gens[0], gens[1]),
		good("data-00000001", true), good("data-00000002", true), good("data-00000003", true),
		good("delta-00000001-00000001", false), good("delta-00000001-00000002", true), good("delta-00000002-00000002", true),
		good("manifest-00000001", false), good("manifest-00000002", true))
	last := laid(t, gens...)
	scrubs(t, "the third", last,
		good("data-00000001", false), good("data-00000002", false), good("data-00000003", true), good("data-00000004", true), good("data-00000005", true),
		good("delta-00000001-00000001", false), good("delta-00000001-00000002", false), good("delta-00000002-00000002", false), good("delta-00000003-00000003", true),
		good("manifest-00000001", false), good("manifest-00000002", false), good("manifest-00000003", true))
	ok(t, "Rot", last.Rot("data-00000005", 20, 1))
	want(t, "P13.6: the newest is not whole", []any{
		reportOf(t, last, "data-00000005"), reportOf(t, last, "manifest-00000003"), reportOf(t, last, "data-00000004"), reportOf(t, last, "data-00000003"), reportOf(t, last, "manifest-00000002"), reportOf(t, last, "delta-00000001-00000002"), reportOf(t, last, "delta-00000001-00000001"),
	}, []any{
		report("data-00000005", 2, api.ErrSum, 0, false), good("manifest-00000003", false), good("data-00000004", false), good("data-00000003", true), good("manifest-00000002", true), good("delta-00000001-00000002", true), good("delta-00000001-00000001", false),
	})
	// no manifest, or none that is whole: nothing of a checkpoint is needed
	for _, manifest := range []api.File{{Name: "notes"}, {Name: "manifest-00000001", Bytes: "x"}, {Name: "tmp-manifest-00000001", Bytes: gens[0][3].Bytes}} {
		d := laid(t, gens[0][:3], []api.File{manifest})
		list, e := revive.Scrub(d, 2)
		ok(t, "P13.6: "+manifest.Name, e)
		for _, r := range list {
			want(t, "P13.6: "+manifest.Name+": "+r.Name, r.Needed, false)
		}
	}
	// a temp beside the manifest that it was is never needed; nor is a file of another pair's number with the generation
	d := laid(t, gens[0], []api.File{{Name: "tmp-manifest-00000001", Bytes: gens[0][3].Bytes}, {Name: "delta-00000002-00000001", Bytes: gens[0][1].Bytes}, {Name: "delta-00000001-00000009", Bytes: gens[0][1].Bytes}})
	want(t, "P13.6: a temp", reportOf(t, d, "tmp-manifest-00000001"), good("tmp-manifest-00000001", false))
	want(t, "P13.6: another's delta", []any{reportOf(t, d, "delta-00000002-00000001").Needed, reportOf(t, d, "delta-00000001-00000009").Needed}, []any{false, false})
}

// P13.6: the error of Decode, of every kind of file, and the number within.
func TestCodes(t *testing.T) {
	gens := generations(t)
	bytes := map[string]string{} // by the letters of the name
	for _, f := range gens[0] {
		bytes[f.Name[:strings.Index(f.Name, "-")+1]] = f.Bytes
	}
	bytes["data-"] = gens[0][0].Bytes
	bytes["tmp-manifest-"] = bytes["manifest-"]
	right := map[string]string{"data-": "data-00000001", "delta-": "delta-00000001-00000001", "manifest-": "manifest-00000001", "tmp-manifest-": "tmp-manifest-00000001"}
	wrong := map[string][]string{
		"data-":         {"data-00000002", "data-10000000", "data-00000011"},
		"delta-":        {"delta-00000002-00000001", "delta-00000001-00000002", "delta-00000002-00000002", "delta-10000001-00000001"},
		"manifest-":     {"manifest-00000002", "manifest-99999999"},
		"tmp-manifest-": {"tmp-manifest-00000002", "tmp-manifest-10000001"},
	}
	code := func(name, s string) api.Errno {
		r := reportOf(t, laid(t, []api.File{{Name: name, Bytes: s}}), name)
		want(t, "P13.6: "+name+": no tail", r.Tail, 0)
		return r.Code
	}
	turned := func(s string, at int) string { return s[:at] + string([]byte{s[at] ^ 4}) + s[at+1:] }
	for letters, name := range right {
		s := bytes[letters]
		want(t, "P13.6: "+name, code(name, s), api.OK)
		for n := range 12 {
			want(t, "P13.6: too short", code(name, s[:n]), api.ErrTorn)
		}
		for at := range s {
			e := code(name, turned(s, at))
			if at < 8 {
				want(t, "P13.6: the letters", e, api.ErrMagic)
			} else {
				want(t, "P13.6: a byte turned", e, api.ErrSum)
			}
		}
		want(t, "P13.6: a byte more", code(name, s+"x"), api.ErrSum)
		longer := s[:len(s)-4] + "\x00"
		want(t, "P13.6: a byte more, and the sum is right", code(name, longer+sum(longer)), api.ErrForm)
		for _, other := range wrong[letters] {
			want(t, "P13.6: "+other, code(other, s), api.ErrForm)
			want(t, "P13.6: a wrong number and a byte turned", code(other, turned(s, 9)), api.ErrSum)
		}
		for other, x := range bytes {
			if other != letters && !(strings.HasSuffix(other, "manifest-") && strings.HasSuffix(letters, "manifest-")) {
				want(t, "P13.6: another kind of file", code(name, x), api.ErrMagic)
			}
		}
	}
}

// P13.6: the tail of a segment alone, and whether Replay comes by it.
func TestSegments(t *testing.T) {
	seg := func(number, tail int, needed bool) api.FileReport {
		return report(fmt.Sprintf("log-%06d", number), api.FileSegment, api.OK, tail, needed)
	}
	c := commit(9, put("z", "z"))
	scrubs(t, "segments that follow", laid(t, log(1, three()...)), seg(1, 0, true), seg(2, 0, true), seg(3, 0, true))
	scrubs(t, "a log that begins later", laid(t, []api.File{segment(3, 40, data(40, c)), segment(7, 41)}), seg(3, 0, true), seg(7, 0, true))
	// ahead of a gap, at it, behind it
	gap := laid(t, []api.File{segment(1, 1, data(1, c)), segment(2, 2), segment(4, 5, data(5, c)), segment(5, 2, data(2, c)), segment(900, 6)})
	scrubs(t, "a gap", gap, seg(1, 0, true), seg(2, 0, true), seg(4, 0, false), seg(5, 0, false), seg(900, 0, false))
	ok(t, "Remove", gap.Remove("log-000004"))
	scrubs(t, "another gap", gap, seg(1, 0, true), seg(2, 0, true), seg(5, 0, true), seg(900, 0, false))
	ok(t, "Remove", gap.Remove("log-000900"))
	scrubs(t, "no gap", gap, seg(1, 0, true), seg(2, 0, true), seg(5, 0, true))
	// what is not whole is looked at all the same, and its tail is that of it alone
	d := laid(t, []api.File{
		{Name: "log-000001", Bytes: "STRALOG1"},
		segment(2, 7, data(7, c), data(8, c)[:30]),
		{Name: "log-000003", Bytes: head(4, 8)},
		segment(4, 8, data(9, c)),
		segment(5, 8, data(8, c, c), "xx"+data(10, c)),
		segment(6, 10, mark(10, 0)),
		segment(7, 10, end(10), "x"),
		segment(8, 10, frame(api.FrameData, 10, "x")),
		{Name: "log-000009", Bytes: head(9, 10)[:23] + "x" + data(10, c)},
		{Name: "log-000010", Bytes: head(10, 10) + data(10, c)[:24] + "y" + data(10, c)[25:]},
		{Name: "log-000011", Bytes: head(11, 10) + data(10, c)[:4] + "y" + data(10, c)[5:]},
		{Name: "log-000012", Bytes: strings.Repeat("x", 24)},
		segment(13, 10, data(10, c)),
		segment(14, 10, data(10, c), data(10, c)),
		{Name: "log-000015", Bytes: ""},
		segment(16, 11, data(11, c)),
	})
	scrubs(t, "every kind of tail", d,
		seg(1, api.TailTorn, true), seg(2, api.TailTorn, true), seg(3, api.TailForm, true), seg(4, api.TailOrder, true), seg(5, api.TailMagic, true),
		seg(6, api.TailForm, true), seg(7, api.TailClean, true), seg(8, api.TailForm, true), seg(9, api.TailHead, true), seg(10, api.TailBody, true),
		seg(11, api.TailHead, true), seg(12, api.TailMagic, true), seg(13, api.TailClean, true), seg(14, api.TailOrder, false), seg(15, api.TailTorn, false), seg(16, api.TailClean, false))
	// as long as a segment can be
	long := head(1, 1) + strings.Repeat(mark(1, 5), 32000) + end(1)
	long += strings.Repeat("x", api.MaxDevice-len(long))
	scrubs(t, "a device full of one segment", laid(t, []api.File{{Name: "log-000001", Bytes: long}}), seg(1, api.TailClean, true))
	// as many files as there can be
	var fs []api.File
	var right []api.FileReport
	for i := range api.MaxFiles {
		fs = append(fs, segment(i+1, 1))
		right = append(right, seg(i+1, 0, true))
	}
	scrubs(t, "as many files as there can be", laid(t, fs), right...)
}
