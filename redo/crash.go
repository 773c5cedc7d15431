package redo

import (
	"slices"

	"strata/api"
)

// noCut is the power of a device that has as much as it needs.
const noCut = -1

// Cut takes the power away behind so many more changing calls (P11.7).
func (d *Device) Cut(calls int) api.Errno {
	if d.missing() {
		return api.ErrNil
	}
	if d.dead {
		return api.ErrPower
	}
	d.power = calls
	return api.OK
}

// Crash keeps what is durable and as much more as it is told (P11.8).
func (d *Device) Crash(dir int, keep ...int) api.Errno {
	if d.missing() {
		return api.ErrNil
	}
	d.directory = d.kept
	for _, c := range d.changes[:between(dir, len(d.changes))] {
		c.on(d.directory)
	}
	for i, name := range d.names() {
		more := 0
		if i < len(keep) {
			more = keep[i]
		}
		d.directory[name].crash(more)
	}
	d.keep()
	d.power, d.dead = noCut, false
	d.age++
	return api.OK
}

// crash leaves of a file what is synced, and more bytes. What lay behind them is nobody's: the third index makes that later bytes lie elsewhere.
func (f *file) crash(more int) {
	end := f.synced + between(more, len(f.bytes)-f.synced)
	f.bytes = f.bytes[:end:end]
	f.synced = end
}

// between tells the number of 0 to most that is the nearest to n.
func between(n, most int) int { return min(max(n, 0), most) }

// Rot turns one byte of a file (P11.9).
func (d *Device) Rot(name string, at int, x byte) api.Errno {
	if d.missing() {
		return api.ErrNil
	}
	f, e := d.find(name)
	if e != api.OK {
		return e
	}
	if at < 0 || at >= len(f.bytes) {
		return api.ErrPlace
	}
	f.bytes[at] ^= x
	return api.OK
}

// Copy gives a device that is in all the same (P11.10).
func (d *Device) Copy() *Device {
	if d.missing() {
		return nil
	}
	twins := twins{}
	c := &Device{limit: d.limit, directory: twins.directory(d.directory), kept: twins.directory(d.kept), power: d.power, dead: d.dead}
	for _, x := range d.changes {
		c.changes = append(c.changes, change{from: x.from, to: x.to, file: twins.of(x.file)})
	}
	c.self = c
	return c
}

// twins are the copies of a device's files: one that stands in several directories is one in all of the copy's too.
type twins map[*file]*file

func (t twins) of(f *file) *file {
	if f != nil && t[f] == nil {
		t[f] = &file{bytes: slices.Clone(f.bytes), synced: f.synced}
	}
	return t[f]
}

func (t twins) directory(d map[string]*file) map[string]*file {
	c := map[string]*file{}
	for name, f := range d {
		c[name] = t.of(f)
	}
	return c
}
