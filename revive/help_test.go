package revive_test

import (
	"encoding/binary"
	"fmt"
	"hash/crc32"
	"math"
	"os"
	"runtime/debug"
	"strings"
	"testing"

	"strata/api"
	"strata/image"
	"strata/redo"
	"strata/revive"
)

// The tests make many things that live shortly: collecting them that often would take most of the time.
func TestMain(m *testing.M) {
	debug.SetGCPercent(800)
	os.Exit(m.Run())
}

// want holds what was answered against what should have been.
func want(t *testing.T, what string, got, right any) {
	t.Helper()
	if a, b := fmt.Sprintf("%+v", got), fmt.Sprintf("%+v", right); a != b {
		t.Errorf("%s: %.900s, want %.900s", what, a, b)
	}
}

// ok looks whether calls were answered OK.
func ok(t *testing.T, what string, answers ...api.Errno) {
	t.Helper()
	for i, e := range answers {
		if e != api.OK {
			t.Errorf("%s: call %d: %d, want OK", what, i, e)
		}
	}
}

// strange are numbers at and beyond all bounds.
func strange() []int {
	return []int{math.MinInt, math.MinInt32, -17, -2, -1, 0, 1, 2, 3, 15, 16, 17, 18, 255, 256, 1<<31 - 1, 1 << 31, 1 << 32, 1<<32 + 1, 1 << 62, math.MaxInt - 1, math.MaxInt}
}

// strangeTimes likewise.
func strangeTimes() []uint64 {
	return []uint64{0, 1, 2, 5, 127, 128, api.MaxTime - 1, api.MaxTime, api.MaxTime + 1, 1 << 63, math.MaxUint64 - 1, math.MaxUint64}
}

func put(key, data string) api.Write { return api.Write{Kind: api.WritePut, Key: key, Data: data} }
func del(key string) api.Write       { return api.Write{Kind: api.WriteDelete, Key: key} }

func commit(stamp uint64, writes ...api.Write) api.Commit {
	return api.Commit{Stamp: stamp, Writes: writes}
}

func row(key, data string, stamp uint64) api.Row {
	return api.Row{Key: key, Data: data, Stamp: stamp}
}

func report(name string, kind int, code api.Errno, tail int, needed bool) api.FileReport {
	return api.FileReport{Name: name, Kind: kind, Code: code, Tail: tail, Needed: needed}
}

// device gives one without files.
func device(t *testing.T) *redo.Device {
	t.Helper()
	d, e := redo.NewDevice(api.MaxDevice)
	if e != api.OK {
		t.Fatalf("NewDevice: %d", e)
	}
	return d
}

// lay puts files on a device, durable with its directory.
func lay(t *testing.T, d *redo.Device, fs ...api.File) {
	t.Helper()
	for _, f := range fs {
		ok(t, "lay "+f.Name, d.Create(f.Name), d.Append(f.Name, f.Bytes), d.Sync(f.Name))
	}
	ok(t, "SyncDir", d.SyncDir())
}

// laid gives a device with these files.
func laid(t *testing.T, lists ...[]api.File) *redo.Device {
	t.Helper()
	d := device(t)
	for _, fs := range lists {
		lay(t, d, fs...)
	}
	return d
}

// none are devices that are none.
func none(t *testing.T) []*redo.Device {
	d := laid(t, log(1, three()...))
	byValue := *d
	return []*redo.Device{nil, {}, new(redo.Device), &byValue}
}

// look tells all that a device shows: files with their bytes, changes, room.
func look(d *redo.Device) string {
	var b strings.Builder
	for _, f := range d.List() {
		s, e := d.Read(f.Name)
		fmt.Fprintf(&b, "%s %d/%d %d %q\n", f.Name, f.Synced, f.Size, e, s)
	}
	bytes, files := d.Room()
	fmt.Fprintf(&b, "%d changes, room %d, %d", d.Changes(), bytes, files)
	return b.String()
}

// all is what keeps each volatile byte of each file.
func all() []int {
	list := make([]int, api.MaxFiles)
	for i := range list {
		list[i] = math.MaxInt
	}
	return list
}

// powerOf tells how many changing calls a device has left (100, if they are at least so many), and whether one was refused.
func powerOf(d *redo.Device) (int, bool) {
	c, n := d.Copy(), 0
	for n < 100 && c.SyncDir() == api.OK {
		n++
	}
	return n, d.Copy().Cut(5) == api.ErrPower
}

// deep tells more: the power, and what each crash would leave of a device, with no volatile byte and with all of them.
func deep(d *redo.Device) string {
	text := look(d)
	text += fmt.Sprint(powerOf(d))
	for n := range d.Changes() + 1 {
		c := d.Copy()
		c.Crash(n)
		text += "\n- " + look(c)
		c = d.Copy()
		c.Crash(n, all()...)
		text += "\n+ " + look(c)
	}
	return text
}

// The bytes of a log by chapter 11, laid down without the program.

func fixed32(n uint32) string { return string(binary.LittleEndian.AppendUint32(nil, n)) }
func fixed64(n uint64) string { return string(binary.LittleEndian.AppendUint64(nil, n)) }
func sum(s string) string {
	return fixed32(crc32.Checksum([]byte(s), crc32.MakeTable(crc32.Castagnoli)))
}
func blob(s string) string { return string(binary.AppendUvarint(nil, uint64(len(s)))) + s }

func bytesOf(c api.Commit) string {
	b := binary.AppendUvarint(nil, c.Stamp)
	b = binary.AppendUvarint(b, uint64(len(c.Writes)))
	for _, w := range c.Writes {
		b = append(append(b, byte(w.Kind)), blob(w.Key)...)
		if w.Kind == api.WritePut {
			b = append(b, blob(w.Data)...)
		}
	}
	return string(b)
}

func frame(kind byte, lsn uint64, body string) string {
	head := "SF" + string([]byte{kind, 0}) + fixed32(uint32(len(body))) + fixed64(lsn) + sum(body)
	return head + sum(head) + body
}

func data(lsn uint64, cs ...api.Commit) string {
	body := ""
	for _, c := range cs {
		body += blob(bytesOf(c))
	}
	return frame(api.FrameData, lsn, body)
}

func mark(lsn, stamp uint64) string { return frame(api.FrameMark, lsn, fixed64(stamp)) }
func end(lsn uint64) string         { return frame(api.FrameEnd, lsn, "") }

func head(number int, first uint64) string {
	h := "STRALOG1" + fixed32(uint32(number)) + fixed64(first)
	return h + sum(h)
}

// segment gives that of a number: its first commit's number, and its frames.
func segment(number int, first uint64, frames ...string) api.File {
	return api.File{Name: fmt.Sprintf("log-%06d", number), Bytes: head(number, first) + strings.Join(frames, "")}
}

// log gives a log's segments: it begins with that number, each commit stands in a segment of its own, two of them in one frame now and then.
func log(first uint64, cs ...api.Commit) []api.File {
	fs := []api.File{segment(1, first)}
	for i, c := range cs {
		last := &fs[len(fs)-1]
		lsn := first + uint64(i)
		switch i % 4 {
		case 0, 2:
			fs = append(fs, segment(len(fs)+1, lsn, data(lsn, c)))
		case 1:
			*last = segment(len(fs), lsn-1, data(lsn-1, cs[i-1], c))
		case 3:
			last.Bytes += data(lsn, c) + end(lsn+1)
		}
	}
	return fs
}

// behind lays frames behind the last segment of a log.
func behind(fs []api.File, frames ...string) []api.File {
	fs[len(fs)-1].Bytes += strings.Join(frames, "")
	return fs
}

// checkpoint gives the files of one with these commits, up to a timestamp.
func checkpoint(t *testing.T, upto uint64, cs ...api.Commit) []api.File {
	t.Helper()
	im, e := image.New(2)
	ok(t, "New", e)
	return closed(t, im, upto, cs...)
}

// closed gives the files of an image's next checkpoint.
func closed(t *testing.T, im *image.Image, upto uint64, cs ...api.Commit) []api.File {
	t.Helper()
	_, e := im.Absorb(cs...)
	fs, e2 := im.Close(upto)
	ok(t, "Close", e, e2)
	return fs
}

// three are the commits of the chapter's example 2.
func three() []api.Commit {
	return []api.Commit{commit(3, put("a", "x")), commit(2, put("b", "y")), commit(5, del("a"))}
}

// recovers holds Recover, with every number of workers, against a state.
func recovers(t *testing.T, what string, d *redo.Device, right api.State) {
	t.Helper()
	for workers := 1; workers <= api.MaxWorkers; workers++ {
		s, e := revive.Recover(d, workers)
		want(t, fmt.Sprintf("P13.1: %s: %d workers", what, workers), []any{s, e}, []any{right, api.OK})
	}
}

// refuses holds Recover against an error, beside which all is zero; AsOf has it too, at whatever time.
func refuses(t *testing.T, what string, d *redo.Device, right api.Errno) {
	t.Helper()
	for _, workers := range []int{1, 5, 16} {
		s, e := revive.Recover(d, workers)
		want(t, "P13.1: "+what, []any{s, e}, []any{api.State{}, right})
		for _, at := range []uint64{0, 1, 3, 5, api.MaxTime} {
			rows, e := revive.AsOf(d, workers, at)
			want(t, "P13.5: "+what, []any{rows == nil, e}, []any{true, right})
		}
	}
}

// stood holds AsOf, with some numbers of workers, against rows.
func stood(t *testing.T, what string, d *redo.Device, at uint64, right ...api.Row) {
	t.Helper()
	for _, workers := range []int{1, 2, 7, 16} {
		rows, e := revive.AsOf(d, workers, at)
		want(t, fmt.Sprintf("P13.5: %s: at %d", what, at), []any{rows, e}, []any{right, api.OK})
	}
}
