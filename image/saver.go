package image

import (
	"strata/api"
	"strata/redo"
)

// Saver is a machine that writes a checkpoint's files to a device, one call a step (P12.12).
type Saver struct {
	device *redo.Device
	calls  []call // those that are still to be made
	code   api.Errno
}

// call of a device, to be made later.
type call func(d *redo.Device) api.Errno

// NewSaver begins one (P12.12).
func NewSaver(d *redo.Device, fs []api.File) (*Saver, api.Errno) {
	if d == nil {
		return nil, api.ErrNil
	}
	if len(fs) == 0 || titleOf(fs[len(fs)-1].Name).kind != manifestFile {
		return nil, api.ErrArg
	}
	return &Saver{device: d, calls: callsFor(fs)}, api.OK
}

// callsFor tells the calls by which files are kept: the manifest under its own name only when all that it names is durable.
func callsFor(fs []api.File) []call {
	var calls []call
	manifest := fs[len(fs)-1]
	for _, f := range fs[:len(fs)-1] {
		calls = append(calls, write(f)...)
	}
	if len(fs) > 1 {
		calls = append(calls, (*redo.Device).SyncDir)
	}
	temp := api.File{Name: tempPrefix + manifest.Name, Bytes: manifest.Bytes}
	rename := func(d *redo.Device) api.Errno { return d.Rename(temp.Name, manifest.Name) }
	calls = append(calls, write(temp)...)
	return append(calls, rename, (*redo.Device).SyncDir)
}

func write(f api.File) []call {
	return []call{
		func(d *redo.Device) api.Errno { return d.Create(f.Name) },
		func(d *redo.Device) api.Errno { return d.Append(f.Name, f.Bytes) },
		func(d *redo.Device) api.Errno { return d.Sync(f.Name) },
	}
}

// missing tells whether there is no saver: one that NewSaver did not make has no device.
func (s *Saver) missing() bool { return s == nil || s.device == nil }

// Step makes one call of the device; true: done.
func (s *Saver) Step() bool {
	if s.missing() || len(s.calls) == 0 {
		return true
	}
	s.code = s.calls[0](s.device)
	s.calls = s.calls[1:]
	if s.code != api.OK {
		s.calls = nil
	}
	return len(s.calls) == 0
}

// Code tells the error of a done one.
func (s *Saver) Code() api.Errno {
	if s.missing() {
		return api.ErrNil
	}
	return s.code
}
