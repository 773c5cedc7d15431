package image

import (
	"slices"

	"strata/api"
	"strata/redo"
)

// Files tells the files of a device that are checkpoints' (P12.11).
func Files(d *redo.Device) []api.File {
	var list []api.File
	for _, f := range d.List() {
		if titleOf(f.Name).kind != otherFile {
			bytes, _ := d.Read(f.Name)
			list = append(list, api.File{Name: f.Name, Bytes: bytes})
		}
	}
	return list
}

// Clean removes the files that the newest whole checkpoint does not need (P12.13).
func Clean(d *redo.Device) (int, api.Errno) {
	if d == nil {
		return 0, api.ErrNil
	}
	fs := Files(d)
	_, m, e := Load(fs)
	if e != api.OK || m.Gen == 0 {
		return 0, e
	}
	needed := namesOf(m)
	removed := 0
	for _, f := range fs {
		if slices.Contains(needed, f.Name) {
			continue
		}
		if e := d.Remove(f.Name); e != api.OK {
			return removed, e
		}
		removed++
	}
	if removed == 0 {
		return 0, api.OK
	}
	return removed, d.SyncDir()
}

// namesOf tells the files of a manifest's checkpoint.
func namesOf(m api.Manifest) []string {
	names := []string{manifestName(m.Gen)}
	for _, p := range m.Pairs {
		names = append(names, dataName(p.Id))
		if p.Gen != 0 {
			names = append(names, deltaName(p.Id, p.Gen))
		}
	}
	return names
}
