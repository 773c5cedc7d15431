package redo

import (
	"maps"

	"strata/api"
)

// Device of named files, whose bytes and whose directory are kept late.
type Device struct {
	self      *Device // itself, if NewDevice or Copy has made it
	limit     int
	directory map[string]*file
	kept      map[string]*file // the directory as it was at the last SyncDir
	changes   []change         // what was done to it since
	power     int              // changing calls that are left; below 0: no cut
	dead      bool             // a call has been refused for want of power
	age       int              // it grows where every log that is open has to stop
}

// file holds its bytes: a crash keeps the first of them, those that are synced.
type file struct {
	bytes  []byte
	synced int
}

// change of a directory: no file has the name from any more, and the file has the name to. A name that is empty is none.
type change struct {
	from, to string
	file     *file
}

func (c change) on(directory map[string]*file) {
	delete(directory, c.from)
	if c.to != "" {
		directory[c.to] = c.file
	}
}

// NewDevice gives a device without files (P11.1).
func NewDevice(limit int) (*Device, api.Errno) {
	if limit < 1 || limit > api.MaxDevice {
		return nil, api.ErrArg
	}
	d := &Device{limit: limit, directory: map[string]*file{}, kept: map[string]*file{}, power: noCut}
	d.self = d
	return d, api.OK
}

// missing tells whether there is no device: a nil one, or one that is not by NewDevice (a Device copied as a value among them, whose files would be another one's).
func (d *Device) missing() bool { return d == nil || d.self != d }

// do makes a changing call: it alone looks at the power, and counts (P11.7).
func (d *Device) do(call func() api.Errno) api.Errno {
	if d.missing() {
		return api.ErrNil
	}
	if d.power == 0 {
		d.dead = true
		return api.ErrPower
	}
	e := call()
	if e == api.OK && d.power > 0 {
		d.power--
	}
	return e
}

// Create makes an empty file (P11.2).
func (d *Device) Create(name string) api.Errno {
	return d.do(func() api.Errno {
		_, e := d.find(name)
		switch {
		case e == api.ErrName:
			return e
		case e == api.OK:
			return api.ErrTaken
		case len(d.directory) >= api.MaxFiles:
			return api.ErrSpace
		}
		d.change(change{to: name, file: &file{}})
		return api.OK
	})
}

// Append writes behind a file's bytes, all or nothing (P11.3).
func (d *Device) Append(name, data string) api.Errno {
	return d.do(func() api.Errno {
		f, e := d.find(name)
		if e != api.OK {
			return e
		}
		if len(data) > d.room() {
			return api.ErrSpace
		}
		f.bytes = append(f.bytes, data...)
		return api.OK
	})
}

// Sync makes a file's bytes durable (P11.4).
func (d *Device) Sync(name string) api.Errno {
	return d.do(func() api.Errno {
		f, e := d.find(name)
		if e == api.OK {
			f.synced = len(f.bytes)
		}
		return e
	})
}

// Rename gives a file another name (P11.5).
func (d *Device) Rename(from, to string) api.Errno {
	return d.do(func() api.Errno {
		if !isFileName(to) {
			return api.ErrName
		}
		f, e := d.find(from)
		if e == api.OK && from != to {
			d.change(change{from: from, to: to, file: f})
		}
		return e
	})
}

// Remove takes a file out of the directory (P11.5).
func (d *Device) Remove(name string) api.Errno {
	return d.do(func() api.Errno {
		_, e := d.find(name)
		if e == api.OK {
			d.change(change{from: name})
		}
		return e
	})
}

// SyncDir makes the directory durable (P11.4).
func (d *Device) SyncDir() api.Errno {
	return d.do(func() api.Errno {
		d.keep()
		return api.OK
	})
}

// change does a change, and notes it down: a crash may go back behind it.
func (d *Device) change(c change) {
	c.on(d.directory)
	d.changes = append(d.changes, c)
}

// keep takes the directory as it is for the one that a crash keeps.
func (d *Device) keep() {
	d.kept = maps.Clone(d.directory)
	d.changes = nil
}

// find tells the file of a name: ErrName, ErrNoFile.
func (d *Device) find(name string) (*file, api.Errno) {
	if !isFileName(name) {
		return nil, api.ErrName
	}
	f := d.directory[name]
	if f == nil {
		return nil, api.ErrNoFile
	}
	return f, api.OK
}
