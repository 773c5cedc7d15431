package image_test

import (
	"fmt"
	"slices"
	"testing"

	"strata/api"
	"strata/image"
	"strata/redo"
)

// call of a device, to be made later.
type call struct {
	what string
	make func(d *redo.Device) api.Errno
}

func createCall(name string) call {
	return call{"Create " + name, func(d *redo.Device) api.Errno { return d.Create(name) }}
}
func appendCall(name, bytes string) call {
	return call{"Append " + name, func(d *redo.Device) api.Errno { return d.Append(name, bytes) }}
}
func syncCall(name string) call {
	return call{"Sync " + name, func(d *redo.Device) api.Errno { return d.Sync(name) }}
}
func removeCall(name string) call {
	return call{"Remove " + name, func(d *redo.Device) api.Errno { return d.Remove(name) }}
}
func syncDirCall() call {
	return call{"SyncDir", func(d *redo.Device) api.Errno { return d.SyncDir() }}
}

func writeCalls(name, bytes string) []call {
	return []call{createCall(name), appendCall(name, bytes), syncCall(name)}
}

// saverCalls are those of P12.12.
func saverCalls(fs []api.File) []call {
	var calls []call
	m := fs[len(fs)-1]
	for _, f := range fs[:len(fs)-1] {
		calls = append(calls, writeCalls(f.Name, f.Bytes)...)
	}
	if len(fs) > 1 {
		calls = append(calls, syncDirCall())
	}
	calls = append(calls, writeCalls("tmp-"+m.Name, m.Bytes)...)
	rename := call{"Rename " + m.Name, func(d *redo.Device) api.Errno { return d.Rename("tmp-"+m.Name, m.Name) }}
	return append(calls, rename, syncDirCall())
}

// lists are files to be saved, of a checkpoint and others.
func lists() map[string][]api.File {
	return map[string][]api.File{
		"a manifest alone":         listed(1, 1, 0),
		"one file and it":          old(),
		"four files":               base(),
		"files of any names":       {{Name: "notes", Bytes: "1"}, {Name: "log-000001", Bytes: ""}, {Name: "tmp-manifest-00000009", Bytes: "x"}, {Name: "manifest-00000010", Bytes: "no manifest"}},
		"an earlier manifest too":  {{Name: "manifest-00000001", Bytes: "1"}, {Name: "manifest-00000002", Bytes: ""}},
		"the least and last names": {{Name: "manifest-00000001", Bytes: "1"}, {Name: "manifest-99999999", Bytes: "2"}},
	}
}

func saver(t *testing.T, d *redo.Device, fs []api.File) *image.Saver {
	t.Helper()
	s, e := image.NewSaver(d, fs)
	if s == nil || e != api.OK {
		t.Fatalf("P12.12: NewSaver: %v, %d", s != nil, e)
	}
	return s
}

// stocked is a device with a file, and one that is not durable.
func stocked(t *testing.T) *redo.Device {
	d := device(t, 5000)
	lay(t, d, api.File{Name: "log-000077", Bytes: "log"})
	ok(t, "Create", d.Create("zz"), d.Append("zz", "volatile"))
	return d
}

// P12.12: what a saver is made of.
func TestNewSaver(t *testing.T) {
	d := stocked(t)
	before := deep(d)
	wrong := map[string][]api.File{"nil": nil, "no files": {}}
	for _, name := range []string{"", "manifest-", "manifest-00000000", "manifest-0000001", "manifest-000000001", "manifest-0000000x", "tmp-manifest-00000001", "data-00000001", "delta-00000001-00000001", "xmanifest-00000001", "manifest-00000001 "} {
		wrong["alone: "+name] = []api.File{{Name: name}}
		wrong["behind another: "+name] = []api.File{{Name: "manifest-00000001"}, {Name: name}}
	}
	for what, fs := range wrong {
		s, e := image.NewSaver(d, fs)
		want(t, "P12.12: "+what, []any{s == nil, e}, []any{true, api.ErrArg})
		s, e = image.NewSaver(nil, fs)
		want(t, "P12.12: no device, "+what, []any{s == nil, e}, []any{true, api.ErrNil})
	}
	s, e := image.NewSaver(nil, base())
	want(t, "P12.12: no device", []any{s == nil, e}, []any{true, api.ErrNil})
	for _, fs := range lists() {
		want(t, "P12.12: Code of one that has not begun", saver(t, d, fs).Code(), api.OK)
	}
	want(t, "P12.12: nothing is done yet", deep(d), before)
	want(t, "P12.12: a nil saver", []any{(*image.Saver)(nil).Step(), (*image.Saver)(nil).Code()}, []any{true, api.ErrNil})
}

// P12.12: a step makes one call of the device, in the order that the promise names.
func TestStepsOfASaver(t *testing.T) {
	for what, fs := range lists() {
		d := stocked(t)
		twin := d.Copy()
		s := saver(t, d, fs)
		calls := saverCalls(fs)
		for i, c := range calls {
			done := s.Step()
			ok(t, c.what, c.make(twin))
			want(t, fmt.Sprint("P12.12: ", what, ", step ", i, ": ", c.what), []any{done, s.Code(), deep(d)}, []any{i == len(calls)-1, api.OK, deep(twin)})
		}
		before := deep(d)
		ok(t, "Cut", d.Cut(5))
		for range 3 {
			want(t, "P12.12: a done one", []any{s.Step(), s.Code(), deep(d)}, []any{true, api.OK, before})
		}
		left, dead := powerOf(d)
		want(t, "P12.12: makes no call", []any{left, dead}, []any{5, false})
	}
}

// P12.12: the calls by a Cut behind each of them.
func TestCutsOfASaver(t *testing.T) {
	for what, fs := range lists() {
		calls := saverCalls(fs)
		for n := range len(calls) + 3 {
			d := stocked(t)
			twin := d.Copy()
			ok(t, "Cut", d.Cut(n))
			s := saver(t, d, fs)
			steps := 1
			for !s.Step() {
				steps++
			}
			for _, c := range calls[:min(n, len(calls))] {
				ok(t, c.what, c.make(twin))
			}
			left, dead := powerOf(d)
			right := []any{n + 1, api.ErrPower, deep(twin), 0, true}
			if n >= len(calls) {
				right = []any{len(calls), api.OK, deep(twin), n - len(calls), false}
			}
			want(t, fmt.Sprint("P12.12: ", what, ", cut behind ", n), []any{steps, s.Code(), deep(d), left, dead}, right)
			ok(t, "Crash", d.Crash(0))
			want(t, "P12.12: an ended one stays ended, also when there is power again", []any{s.Step(), s.Code()}, []any{true, right[1]})
		}
	}
}

// P12.12: a call that is refused for another reason ends the machine with that step.
func TestRefusalsOfASaver(t *testing.T) {
	fs := base()
	taken := append([]string{"data-00000002", "delta-00000002-00000004", "data-00000005"}, "tmp-manifest-00000006")
	for i, name := range taken {
		d := stocked(t)
		lay(t, d, api.File{Name: name})
		at := 3 * i
		if i == 3 {
			at++
		}
		stops(t, d, fs, at, api.ErrTaken)
	}
	d := stocked(t)
	lay(t, d, api.File{Name: "manifest-00000006", Bytes: "older"})
	s := saver(t, d, fs)
	for !s.Step() {
	}
	bytes, _ := d.Read("manifest-00000006")
	want(t, "P12.12: a Rename over a manifest is not refused", []any{s.Code(), bytes}, []any{api.OK, fs[3].Bytes})
	for i, f := range fs {
		other := slices.Clone(fs)
		at := 3 * i
		if i < 3 {
			other[i].Name = "no name!"
			stops(t, stocked(t), other, at, api.ErrName)
		} else {
			at++
		}
		other[i] = api.File{Name: f.Name, Bytes: longKey(6000)}
		stops(t, stocked(t), other, at+1, api.ErrSpace)
	}
	// a file that somebody takes away between two steps
	for _, c := range []struct {
		at   int
		name string
	}{{1, "data-00000002"}, {2, "data-00000002"}, {4, "delta-00000002-00000004"}, {8, "data-00000005"}, {11, "tmp-manifest-00000006"}, {12, "tmp-manifest-00000006"}, {13, "tmp-manifest-00000006"}} {
		d := stocked(t)
		s := saver(t, d, fs)
		for range c.at {
			want(t, "Step", []any{s.Step(), s.Code()}, []any{false, api.OK})
		}
		ok(t, "Remove", d.Remove(c.name))
		before := deep(d)
		want(t, fmt.Sprint("P12.12: without ", c.name, " at step ", c.at), []any{s.Step(), s.Code(), deep(d), s.Step(), s.Code()}, []any{true, api.ErrNoFile, before, true, api.ErrNoFile})
	}
	d = device(t, 100000)
	for i := range api.MaxFiles {
		ok(t, "Create", d.Create(fmt.Sprint("f", i)))
	}
	ok(t, "SyncDir", d.SyncDir())
	stops(t, d, fs, 0, api.ErrSpace)
	ok(t, "Remove", d.Remove("f7"), d.SyncDir())
	stops(t, d, fs, 3, api.ErrSpace)
}

// stops looks whether a saver is ended by its step of that number, by that error, with nothing done by it.
func stops(t *testing.T, d *redo.Device, fs []api.File, at int, e api.Errno) {
	t.Helper()
	twin := d.Copy()
	s := saver(t, d, fs)
	for i, c := range saverCalls(fs)[:at+1] {
		done := s.Step()
		right := []any{i == at, api.OK}
		if i == at {
			right[1] = e
		}
		want(t, fmt.Sprint("P12.12: step ", i, ": ", c.what), []any{done, s.Code()}, right)
		if i < at {
			ok(t, c.what, c.make(twin))
		}
	}
	want(t, fmt.Sprint("P12.12: refused at ", at), []any{deep(d), s.Step(), s.Code(), deep(d)}, []any{deep(twin), true, e, deep(twin)})
}
