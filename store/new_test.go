package store_test

import (
	"fmt"
	"math"
	"strings"
	"testing"

	"strata/api"
	"strata/image"
	"strata/redo"
	"strata/revive"
	"strata/store"
)

// fieldsOf are the numbers of a setup.
func fieldsOf(s *api.Setup) map[string]*int {
	return map[string]*int{
		"Slots": &s.Engine.Slots, "Buckets": &s.Engine.Buckets, "TxSlots": &s.Engine.TxSlots, "Sessions": &s.Engine.Sessions, "Coop": &s.Engine.Coop,
		"Device": &s.Device, "Segment": &s.Segment, "Batch": &s.Batch, "Limit": &s.Limit, "Workers": &s.Workers,
	}
}

// P17.1: each field at its ends, and beyond them.
func TestNewFields(t *testing.T) {
	for field, ends := range map[string][2]int{
		"Slots": {1, api.MaxSlots}, "Buckets": {1, api.MaxBuckets}, "TxSlots": {1, api.MaxTx}, "Sessions": {1, api.MaxSessions - 1}, "Coop": {0, api.MaxCoop},
		"Device": {24, api.MaxDevice}, "Segment": {api.MinSegment, api.MaxSegment}, "Batch": {1, api.MaxBatch}, "Limit": {1, api.MaxFill}, "Workers": {1, api.MaxWorkers},
	} {
		for n, right := range map[int]api.Errno{
			math.MinInt: api.ErrUnfit, -1: api.ErrUnfit, ends[0] - 1: api.ErrUnfit, ends[0]: api.OK, ends[0] + 1: api.OK,
			ends[1] - 1: api.OK, ends[1]: api.OK, ends[1] + 1: api.ErrUnfit, math.MaxInt: api.ErrUnfit,
		} {
			setup := chapterSetup()
			*fieldsOf(&setup)[field] = n
			s, code := store.New(setup)
			if code != right || (s == nil) != (right != api.OK) {
				t.Errorf("P17.1: New with %s %d: %v, %d, want %d", field, n, s, code, right)
			}
			if text, code := store.Run(setup); text != "" || code != right {
				t.Errorf("P17.13: Run with %s %d: %q, %d, want %d", field, n, text, code, right)
			}
			if s != nil && (s.Down() || s.Engine() == nil || len(s.Rows()) != 0) {
				t.Errorf("P17.1: New with %s %d: down, or with rows", field, n)
			}
			if o, code := store.Open(setup, newDevice(t, 100)); code != right || (o == nil) != (right != api.OK) {
				t.Errorf("P17.2: Open with %s %d: %v, %d, want %d", field, n, o, code, right)
			}
			if o, code := store.Open(setup, nil); code != api.ErrNil || o != nil {
				t.Errorf("P17.2: Open of no device with %s %d: %v, %d", field, n, o, code)
			}
		}
	}
	for clock, right := range map[uint64]api.Errno{0: api.OK, api.MaxTime: api.OK, api.MaxTime + 1: api.ErrUnfit, math.MaxUint64: api.ErrUnfit} {
		setup := chapterSetup()
		setup.Engine.Clock = clock
		if s, code := store.New(setup); code != right || (s == nil) != (right != api.OK) {
			t.Errorf("P17.1: New with the clock %d: %v, %d, want %d", clock, s, code, right)
		}
	}
}

// P17.1: setups made up of strange numbers.
func TestNewStrange(t *testing.T) {
	var codes met
	inBatches(t, 3000, func(m *maker) string {
		setup := m.setup()
		for _, n := range fieldsOf(&setup) {
			if m.one(6) {
				*n = pick(m, strange()...)
			}
		}
		if setup.Engine.Slots > 5000 && setup.Engine.Slots <= api.MaxSlots {
			setup.Engine.Slots = 5000 // greater ones take long
		}
		s, code := store.New(setup)
		codes.add(fmt.Sprint(code))
		right := api.OK
		if plainUnfit(setup) {
			right = api.ErrUnfit
		}
		if code != right || (s == nil) != (right != api.OK) {
			return fmt.Sprintf("P17.1: New(%+v): %v, %d, want %d", setup, s, code, right)
		}
		return ""
	})
	codes.atLeast(t, 100, "0", "171")
}

// P17.1: what a new store is: an engine with one session more, a log on a new device.
func TestNewIs(t *testing.T) {
	setup := chapterSetup()
	setup.Engine.Clock = 7
	s := made(t, setup)
	want(t, "P17.1: the device", list(s.Device().List(), s.Device().Changes()), list([]api.FileInfo{{Name: "log-000001", Size: 24, Synced: 24}}, 0))
	room, _ := s.Device().Room()
	want(t, "P17.1: the device's room", room, setup.Device-24)
	e := s.Engine()
	want(t, "P17.1: the collector's session", e.Start(3, api.Call{Kind: api.CallCollect, Count: 4}), api.OK)
	want(t, "P17.1: one more", e.Start(4, api.Call{Kind: api.CallCollect, Count: 4}), api.ErrSession)
	want(t, "P17.1: the clock", e.Floor(), 8)
	want(t, "P17.1: the slots", list(e.Free()), list(64, 0))
	if made(t, setup).Engine() == e {
		t.Errorf("P0.1: two stores have one engine")
	}
}

// P17.2: of several errors the first: no device, a setup that is none, one that NewDevice did not make; the commands are counted from 0 on.
func TestOpenErrors(t *testing.T) {
	wrong := chapterSetup()
	wrong.Workers = 0
	var zero redo.Device
	for _, c := range []struct {
		what   string
		setup  api.Setup
		device *redo.Device
		right  api.Errno
	}{
		{"a setup that is none, no device", wrong, nil, api.ErrNil},
		{"a setup that is none", wrong, newDevice(t, 1000), api.ErrUnfit},
		{"a setup that is none, a device that is none", wrong, &zero, api.ErrUnfit},
		{"a device that is none", chapterSetup(), &zero, api.ErrNil},
		{"a device without room", chapterSetup(), newDevice(t, 23), api.ErrSpace},
		{"a small device", chapterSetup(), newDevice(t, 24), api.OK},
	} {
		s, code := store.Open(c.setup, c.device)
		if code != c.right || (s == nil) != (code != api.OK) {
			t.Errorf("P17.2: Open of %s: %v, %d, want %d", c.what, s, code, c.right)
		}
	}
	first := made(t, chapterSetup())
	do(t, first, "@1 CREATE TABLE t (k INT, PRIMARY KEY (k)); @1 INSERT INTO t VALUES (1); DRAIN; SYNC;")
	s := opened(t, chapterSetup(), first.Device())
	tells(t, "P17.2", s, "@1 SELECT * FROM t; DRAIN;", "0 @1 OK count 1 stamp 6 commit", "| 'k'", "  1", "1 DRAIN OK")
}

// P17.2: the device's own room counts, not the setup's.
func TestOpenRoom(t *testing.T) {
	setup := chapterSetup()
	setup.Device = 100
	s := opened(t, setup, newDevice(t, 50000))
	room, _ := s.Device().Room()
	want(t, "P17.2: the room", room, 50000-24)
}

// P17.2: a power that is cut, and what is volatile, is the copy's too.
func TestOpenCut(t *testing.T) {
	for calls := range 6 {
		d := newDevice(t, 50000)
		d.Cut(calls)
		before := wholeDump(d)
		_, code := store.Open(chapterSetup(), d)
		right := api.ErrPower
		if calls >= 4 { // Create, Append, Sync, SyncDir
			right = api.OK
		}
		want(t, fmt.Sprintf("P17.2: Open with power for %d calls", calls), code, right)
		want(t, "P17.2: the device that is handed in", wholeDump(d), before)
	}
	s := made(t, chapterSetup())
	do(t, s, "@1 CREATE TABLE t (k INT, PRIMARY KEY (k)); DRAIN; FLUSH;")
	d := s.Device()
	want(t, "P17.2: what was not durable", len(opened(t, chapterSetup(), d).Rows()), 3)
	d.Crash(0)
	want(t, "P17.2: behind a crash", len(opened(t, chapterSetup(), d).Rows()), 0)
}

// richDevice is one with segments, checkpoints, a merge, and something that is not durable.
func richDevice(t *testing.T, setup api.Setup) *redo.Device {
	t.Helper()
	s := made(t, setup)
	do(t, s, `@1 CREATE TABLE t (k INT, v INT, PRIMARY KEY (k)); @1 INSERT INTO t VALUES (1, 1), (2, 2), (3, 3); DRAIN; CHECKPOINT;
		@1 UPDATE t SET v = 9 WHERE k = 1; @1 DELETE FROM t WHERE k = 2; DRAIN; CHECKPOINT;
		@1 INSERT INTO t VALUES (4, 4); DRAIN; SYNC; `+strings.Repeat("@1 UPDATE t SET v = v + 1 WHERE k = 4; DRAIN; SYNC; ", 8)+`@1 INSERT INTO t VALUES (5, 5); @1 UPDATE t SET v = 7 WHERE k = 3; DRAIN; FLUSH;`)
	return s.Device()
}

// filed makes a device of files, all durable.
func filed(t *testing.T, limit int, fs ...api.File) *redo.Device {
	t.Helper()
	d := newDevice(t, limit)
	for _, f := range fs {
		for _, code := range []api.Errno{d.Create(f.Name), d.Append(f.Name, f.Bytes), d.Sync(f.Name)} {
			if code != api.OK {
				t.Fatalf("%s: %d", f.Name, code)
			}
		}
	}
	d.SyncDir()
	return d
}

// filesOf are all of a device.
func filesOf(d *redo.Device) []api.File {
	var fs []api.File
	for _, f := range d.List() {
		bytes, _ := d.Read(f.Name)
		fs = append(fs, api.File{Name: f.Name, Bytes: bytes})
	}
	return fs
}

// opensAlike holds Open against the plain one and against recovery; the device stays as it was.
func opensAlike(t *testing.T, what string, setup api.Setup, d *redo.Device) (*store.Store, api.Errno) {
	t.Helper()
	before := wholeDump(d)
	state, recovers := revive.Recover(d, 3)
	s, code := store.Open(setup, d)
	p, right := openPlain(setup, d)
	if code != right || (s == nil) != (code != api.OK) {
		t.Errorf("%s: Open answers %d, want %d", what, code, right)
		return s, code
	}
	if wholeDump(d) != before {
		t.Errorf("P17.2: %s: the device that is handed in is changed", what)
	}
	if code != api.OK {
		if recovers != api.OK && recovers != code {
			t.Errorf("P17.9: %s: Open answers %d, Recover %d", what, code, recovers)
		}
		return s, code
	}
	want(t, "P17.9: "+what+": rows", s.Rows(), state.Rows)
	want(t, "P17.9: "+what+": device", dump(s.Device()), dump(p.device))
	return s, code
}

// P17.2: a device that was cut in the midst of each file, at each place.
func TestOpenCutFiles(t *testing.T) {
	setup := chapterSetup()
	setup.Segment, setup.Limit = 256, 2
	fs := filesOf(richDevice(t, setup))
	var codes met
	kinds := map[string]int{}
	for i, f := range fs {
		kinds[f.Name[:4]]++
		for size := range len(f.Bytes) {
			cut := append([]api.File{}, fs...)
			cut[i].Bytes = f.Bytes[:size]
			_, code := opensAlike(t, fmt.Sprintf("%s cut to %d bytes", f.Name, size), setup, filed(t, 65536, cut...))
			codes.add(fmt.Sprint(code))
		}
		_, code := opensAlike(t, f.Name+" not there", setup, filed(t, 65536, append(append([]api.File{}, fs[:i]...), fs[i+1:]...)...))
		codes.add(fmt.Sprint(code))
	}
	if kinds["log-"] < 3 || kinds["data"] < 2 || kinds["delt"] < 1 || kinds["mani"] != 1 {
		t.Errorf("the device has too few files: %v", kinds)
	}
	codes.atLeast(t, 10, "0", "126")
	codes.atLeast(t, 1, "130")
}

// P17.2: files that are none of the store's are not looked at, and stay.
func TestOpenOtherFiles(t *testing.T) {
	setup := chapterSetup()
	others := []api.File{{Name: "notes", Bytes: "x"}, {Name: "log-1", Bytes: "y"}, {Name: "log-000000", Bytes: "z"}, {Name: "data-1", Bytes: ""}, {Name: "manifest-00000000", Bytes: "m"}, {Name: "tmp-data-00000001", Bytes: "t"}}
	fs := filesOf(richDevice(t, setup))
	s, code := opensAlike(t, "other files", setup, filed(t, 65536, append(fs, others...)...))
	want(t, "P17.2: Open", code, api.OK)
	do(t, s, "@1 INSERT INTO t VALUES (8, 8); DRAIN; CHECKPOINT; CRASH; RESTART;")
	for _, f := range others {
		bytes, code := s.Device().Read(f.Name)
		want(t, "P17.2: "+f.Name, list(bytes, code), list(f.Bytes, api.OK))
	}
}

// P17.2: devices on which something was turned, added or removed, and scripts behind that.
func TestOpenMeddledDevices(t *testing.T) {
	var codes met
	inBatches(t, 2500, func(m *maker) string {
		setup := m.setup()
		setup.Engine.Clock = 0
		s, code := store.New(setup)
		if code != api.OK {
			return ""
		}
		teller := newTeller(m, setup)
		for range 50 {
			s.Play(commands(teller.next(s.Down()))...)
		}
		d := s.Device()
		if m.one(2) {
			d.Crash(m.Intn(5), m.Intn(100), m.Intn(100), m.Intn(100))
		}
		for range m.Intn(4) {
			fs := d.List()
			if len(fs) == 0 {
				break
			}
			f := pick(m, fs...)
			switch m.Intn(4) {
			case 0:
				d.Rot(f.Name, m.Intn(f.Size+1), byte(1+m.Intn(255)))
			case 1:
				d.Remove(f.Name)
			case 2:
				d.Append(f.Name, "x")
			case 3:
				name := pick(m, "manifest-99999999", "tmp-manifest-99999999", "data-99999999", "delta-00000001-99999999", "log-000077", "log-999999", "notes")
				d.Create(name)
				bytes, _ := d.Read(f.Name)
				d.Append(name, bytes)
			}
		}
		if m.one(4) {
			d.Cut(m.Intn(20))
		}
		before := wholeDump(d)
		s, code = store.Open(setup, d)
		p, right := openPlain(setup, d)
		codes.add(fmt.Sprint(code))
		if code != right || (s == nil) != (code != api.OK) {
			return fmt.Sprintf("P17.2: Open: %v, %d, want %d", s, code, right)
		}
		if wholeDump(d) != before {
			return "P17.2: the device that is handed in is changed"
		}
		if code != api.OK {
			return ""
		}
		for range 40 {
			line := teller.next(s.Down())
			rs, _ := s.Play(commands(line)...)
			codes.replies(rs)
			if got, right := fmt.Sprintf("%+v", rs), fmt.Sprintf("%+v", p.play(commands(line)...)); got != right {
				return fmt.Sprintf("%s:\n%s\nwant\n%s", line, got, right)
			}
			if dump(s.Device()) != dump(p.device) || fmt.Sprint(s.Rows()) != fmt.Sprint(p.rows()) {
				return line + ": devices or rows"
			}
		}
		return ""
	})
	codes.atLeast(t, 10, "0", "115", "117", "126", "130", "CHECKPOINT E128")
}

// P17.9: two commits of one stamp, which no store has logged: the image takes the first alone, and the store does not come up.
func TestOpenSameStamps(t *testing.T) {
	d := newDevice(t, 5000)
	l, _, _ := redo.Open(d, api.LogOptions{Segment: 4096, Batch: 4})
	for range 2 {
		l.Append(api.Commit{Stamp: 5, Writes: []api.Write{{Kind: api.WritePut, Key: "a"}}})
	}
	l.Sync()
	_, code := store.Open(chapterSetup(), d)
	want(t, "P17.9: Open", code, api.ErrStamp)
	rows := make([]string, 9)
	for i := range rows {
		rows[i] = fmt.Sprint("(", i, ")")
	}
	s := made(t, chapterSetup())
	do(t, s, "@1 CREATE TABLE t (k INT, PRIMARY KEY (k)); @1 INSERT INTO t VALUES "+strings.Join(rows, ", ")+"; DRAIN; SYNC;")
	small := chapterSetup()
	small.Engine.Slots = 11
	_, code = store.Open(small, s.Device())
	want(t, "P17.9: Open with too few slots", code, api.ErrFull)
	small.Engine.Slots = 12
	want(t, "P17.9: Open with as many slots as rows", len(opened(t, small, s.Device()).Rows()), 12)
}

// P17.2, P17.9: a checkpoint that was begun and not brought to its end is cleaned away when there is one ahead of it.
func TestOpenCleans(t *testing.T) {
	setup := chapterSetup()
	fs := filesOf(richDevice(t, setup))
	extra := []api.File{{Name: "data-00000077", Bytes: "x"}, {Name: "tmp-manifest-00000044", Bytes: "y"}}
	s := opened(t, setup, filed(t, 65536, append(fs, extra...)...))
	var left []string
	for _, f := range image.Files(s.Device()) {
		left = append(left, f.Name)
	}
	want(t, "P17.9: what is left", left, "[data-00000001 data-00000002 delta-00000001-00000002 manifest-00000002]")
	bare := opened(t, setup, filed(t, 65536, extra...))
	want(t, "P17.9: without a manifest nothing is cleaned away", len(image.Files(bare.Device())), 2)
}
