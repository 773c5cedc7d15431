package revive

import (
	"slices"

	"strata/api"
	"strata/image"
	"strata/redo"
)

// sheet is a file to be looked at, and the place of its report.
type sheet struct {
	api.File
	place int
}

// Scrub looks through all files (P13.6).
func Scrub(d *redo.Device, workers int) ([]api.FileReport, api.Errno) {
	if e := mayWork(d, workers); e != api.OK {
		return nil, e
	}
	n := needsOf(d)
	list := d.List()
	reports := make([]api.FileReport, len(list))
	c := newCrew(workers, func(_ int, s sheet) { reports[s.place] = n.report(s.File) })
	for i, f := range list {
		bytes, _ := d.Read(f.Name)
		c.deal(f.Name, sheet{api.File{Name: f.Name, Bytes: bytes}, i})
	}
	c.end()
	return reports, api.OK
}

// needs are what recovery takes from a device.
type needs struct {
	files []title // of the newest whole checkpoint
	gap   int     // the segment at which the log's reading ended by a gap; 0: by none
}

func needsOf(d *redo.Device) needs {
	n := needs{}
	if _, m, _ := image.Load(image.Files(d)); m.Gen != 0 { // without a whole one it is empty
		n.files = titlesOf(m)
	}
	if tail := logOf(d).tail; tail.Kind == api.TailGap {
		n.gap = tail.Segment
	}
	return n
}

// titlesOf tells the files of a manifest's checkpoint.
func titlesOf(m api.Manifest) []title {
	list := []title{{api.FileManifest, [2]int{m.Gen}}}
	for _, p := range m.Pairs {
		list = append(list, title{api.FileData, [2]int{p.Id}})
		if p.Gen != 0 {
			list = append(list, title{api.FileDelta, [2]int{p.Id, p.Gen}})
		}
	}
	return list
}

func (n needs) has(t title) bool {
	if t.kind == api.FileSegment {
		return n.gap == 0 || t.numbers[0] < n.gap
	}
	return slices.Contains(n.files, t)
}

func (n needs) report(f api.File) api.FileReport {
	t := titleOf(f.Name)
	r := api.FileReport{Name: f.Name, Kind: t.kind, Needed: n.has(t)}
	if t.kind == api.FileSegment {
		r.Tail = tailAlone(f)
	} else {
		r.Code = codeOf(t, f.Bytes)
	}
	return r
}

// tailAlone tells how the reading of a segment ends on a device that has no other one.
func tailAlone(f api.File) int {
	d, _ := redo.NewDevice(api.MaxDevice)
	d.Create(f.Name)
	d.Append(f.Name, f.Bytes)
	return logOf(d).tail.Kind
}

// codeOf tells what is wrong with a file of that title.
func codeOf(t title, bytes string) api.Errno {
	numbers, e := numbersIn(t.kind, bytes)
	if e == api.OK && numbers != t.numbers {
		return api.ErrForm
	}
	return e
}

// numbersIn tells the numbers within a file, in the order of those in its name.
func numbersIn(kind int, bytes string) ([2]int, api.Errno) {
	switch kind {
	case api.FileData:
		p, e := image.DecodeData(bytes)
		return [2]int{p.Id}, e
	case api.FileDelta:
		p, e := image.DecodeDelta(bytes)
		return [2]int{p.Id, p.Gen}, e
	case api.FileManifest, api.FileTemp:
		m, e := image.DecodeManifest(bytes)
		return [2]int{m.Gen}, e
	}
	return [2]int{}, api.OK
}
