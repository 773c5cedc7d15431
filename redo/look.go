package redo

import (
	"maps"
	"slices"

	"strata/api"
)

// Read tells a file's bytes (P11.6).
func (d *Device) Read(name string) (string, api.Errno) {
	if d.missing() {
		return "", api.ErrNil
	}
	f, e := d.find(name)
	if e != api.OK {
		return "", e
	}
	return string(f.bytes), api.OK
}

// List tells all files by name (P11.6).
func (d *Device) List() []api.FileInfo {
	if d.missing() {
		return nil
	}
	var list []api.FileInfo
	for _, name := range d.names() {
		f := d.directory[name]
		list = append(list, api.FileInfo{Name: name, Size: len(f.bytes), Synced: f.synced})
	}
	return list
}

// Room tells the bytes and the files that there is room for (P11.6).
func (d *Device) Room() (int, int) {
	if d.missing() {
		return 0, 0
	}
	return d.room(), api.MaxFiles - len(d.directory)
}

// Changes tells how many changes of the directory are not durable (P11.6).
func (d *Device) Changes() int {
	if d.missing() {
		return 0
	}
	return len(d.changes)
}

// room tells how many bytes are left: below 0, if a crash brought more back than the limit is.
func (d *Device) room() int {
	left := d.limit
	for _, f := range d.directory {
		left -= len(f.bytes)
	}
	return left
}

func (d *Device) names() []string {
	return slices.Sorted(maps.Keys(d.directory))
}

// size tells the bytes of a file; one that is not there has none.
func (d *Device) size(name string) int {
	if f := d.directory[name]; f != nil {
		return len(f.bytes)
	}
	return 0
}

// segments tells the numbers of all segments, rising.
func (d *Device) segments() []int {
	var numbers []int
	for name := range d.directory {
		if n := segmentNumber(name); n > 0 {
			numbers = append(numbers, n)
		}
	}
	slices.Sort(numbers)
	return numbers
}
