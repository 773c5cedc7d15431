package image_test

import (
	"encoding/binary"
	"fmt"
	"hash/crc32"
	"math"
	"os"
	"runtime/debug"
	"strings"
	"testing"

	"strata/api"
	"strata/image"
	"strata/redo"
)

// The tests make many things that live shortly: collecting them that often would take most of the time.
func TestMain(m *testing.M) {
	debug.SetGCPercent(800)
	os.Exit(m.Run())
}

// want holds what was answered against what should have been.
func want(t *testing.T, what string, got, right any) {
	t.Helper()
	if a, b := fmt.Sprintf("%+v", got), fmt.Sprintf("%+v", right); a != b {
		t.Errorf("%s: %.900s, want %.900s", what, a, b)
	}
}

// ok looks whether calls were answered OK.
func ok(t *testing.T, what string, answers ...api.Errno) {
	t.Helper()
	for i, e := range answers {
		if e != api.OK {
			t.Errorf("%s: call %d: %d, want OK", what, i, e)
		}
	}
}

// strange are numbers at and beyond all bounds.
func strange() []int {
	return []int{math.MinInt, math.MinInt32, -2, -1, 0, 1, 2, 3, 255, 256, 257, 4095, 4096, 4097, 65535, 65536, 65537, 99999998, 99999999, 100000000, 100000001, 1<<31 - 1, 1 << 31, 1 << 32, 1<<32 + 1, 1 << 62, math.MaxInt - 1, math.MaxInt}
}

// strangeTimes likewise.
func strangeTimes() []uint64 {
	return []uint64{0, 1, 2, 5, 127, 128, api.MaxTime - 1, api.MaxTime, api.MaxTime + 1, 1 << 63, math.MaxUint64 - 1, math.MaxUint64}
}

func put(key, data string) api.Write { return api.Write{Kind: api.WritePut, Key: key, Data: data} }
func del(key string) api.Write       { return api.Write{Kind: api.WriteDelete, Key: key} }

func commit(stamp uint64, writes ...api.Write) api.Commit {
	return api.Commit{Stamp: stamp, Writes: writes}
}

func datum(begin uint64, key, data string) api.Datum {
	return api.Datum{Begin: begin, Key: key, Data: data}
}
func erasure(begin, end uint64, key string) api.Erasure {
	return api.Erasure{Begin: begin, End: end, Key: key}
}
func row(key, data string, stamp uint64) api.Row {
	return api.Row{Key: key, Data: data, Stamp: stamp}
}

// made gives an empty image.
func made(t *testing.T, fill int) *image.Image {
	t.Helper()
	im, e := image.New(fill)
	if im == nil || e != api.OK {
		t.Fatalf("P12.4: New(%d): %v, %d", fill, im != nil, e)
	}
	return im
}

// resumed gives the image that goes on from files.
func resumed(t *testing.T, fill int, fs ...api.File) *image.Image {
	t.Helper()
	im, e := image.Resume(fill, fs)
	if im == nil || e != api.OK {
		t.Fatalf("P12.10: Resume(%d): %v, %d", fill, im != nil, e)
	}
	return im
}

// absorb gives an image commits that it can take.
func absorb(t *testing.T, im *image.Image, cs ...api.Commit) {
	t.Helper()
	if n, e := im.Absorb(cs...); n != len(cs) || e != api.OK {
		t.Fatalf("P12.5: Absorb: %d, %d, want %d, OK", n, e, len(cs))
	}
}

// closed makes a checkpoint that can be made.
func closed(t *testing.T, im *image.Image, upto uint64) []api.File {
	t.Helper()
	fs, e := im.Close(upto)
	if e != api.OK {
		t.Fatalf("P12.6: Close(%d): %d", upto, e)
	}
	return fs
}

// state tells all that an image shows.
func state(im *image.Image) string {
	return fmt.Sprintf("%d %d %+v %+v", im.Upto(), im.Pending(), im.Pairs(), im.Rows())
}

// names tells those of files.
func names(fs []api.File) []string {
	var list []string
	for _, f := range fs {
		list = append(list, f.Name)
	}
	return list
}

// device gives one without files.
func device(t *testing.T, limit int) *redo.Device {
	t.Helper()
	d, e := redo.NewDevice(limit)
	if e != api.OK {
		t.Fatalf("NewDevice: %d", e)
	}
	return d
}

// lay puts files on a device, durable with its directory.
func lay(t *testing.T, d *redo.Device, fs ...api.File) {
	t.Helper()
	for _, f := range fs {
		ok(t, "lay "+f.Name, d.Create(f.Name), d.Append(f.Name, f.Bytes), d.Sync(f.Name))
	}
	ok(t, "SyncDir", d.SyncDir())
}

// look tells all that a device shows: files with their bytes, changes, room.
func look(d *redo.Device) string {
	var b strings.Builder
	for _, f := range d.List() {
		s, e := d.Read(f.Name)
		fmt.Fprintf(&b, "%s %d/%d %d %q\n", f.Name, f.Synced, f.Size, e, s)
	}
	bytes, files := d.Room()
	fmt.Fprintf(&b, "%d changes, room %d, %d", d.Changes(), bytes, files)
	return b.String()
}

// all is what keeps each volatile byte of each file.
func all() []int {
	list := make([]int, api.MaxFiles)
	for i := range list {
		list[i] = math.MaxInt
	}
	return list
}

// deep tells more: what each crash would leave of a device, with no volatile byte and with all of them.
func deep(d *redo.Device) string {
	text := look(d)
	for n := range d.Changes() + 1 {
		c := d.Copy()
		c.Crash(n)
		text += "\n- " + look(c)
		c = d.Copy()
		c.Crash(n, all()...)
		text += "\n+ " + look(c)
	}
	return text
}

// powerOf tells how many changing calls a device has left (100, if they are at least so many), and whether one was refused.
func powerOf(d *redo.Device) (int, bool) {
	c, n := d.Copy(), 0
	for n < 100 && c.SyncDir() == api.OK {
		n++
	}
	return n, d.Copy().Cut(5) == api.ErrPower
}

// The bytes of the chapter's table, laid down without the program, whatever stands in them.

// part of a file's contents: a Uvarint, or bytes.
type part struct {
	bytes  string
	number bool
}

func uvarint(n uint64) part { return part{string(binary.AppendUvarint(nil, n)), true} }
func fixed32(n uint32) part { return part{string(binary.LittleEndian.AppendUint32(nil, n)), false} }

func blob(s string) []part { return []part{uvarint(uint64(len(s))), {s, false}} }

func dataParts(p api.FilePair) []part {
	parts := []part{uvarint(uint64(p.Id)), uvarint(p.Lo), uvarint(p.Hi - p.Lo), uvarint(uint64(len(p.Data)))}
	before := p.Lo
	for _, d := range p.Data {
		parts = append(parts, uvarint(d.Begin-before))
		parts = append(append(parts, blob(d.Key)...), blob(d.Data)...)
		before = d.Begin
	}
	return parts
}

func deltaParts(p api.FilePair) []part {
	parts := []part{uvarint(uint64(p.Id)), uvarint(uint64(p.Gen)), uvarint(uint64(len(p.Gone)))}
	before := uint64(0)
	for _, g := range p.Gone {
		parts = append(append(parts, uvarint(g.Begin-before), uvarint(g.End-g.Begin)), blob(g.Key)...)
		before = g.Begin
	}
	return parts
}

func manifestParts(m api.Manifest) []part {
	parts := []part{uvarint(uint64(m.Gen)), uvarint(uint64(m.Next)), uvarint(m.Upto), uvarint(uint64(len(m.Pairs)))}
	before := uint64(0)
	for _, p := range m.Pairs {
		parts = append(parts, uvarint(uint64(p.Id)), uvarint(p.Lo-before), uvarint(p.Hi-p.Lo), uvarint(uint64(p.Rows)), uvarint(uint64(p.Gen)), uvarint(uint64(p.Gone)), fixed32(p.DataSum), fixed32(p.DeltaSum))
		before = p.Hi
	}
	return parts
}

func joined(parts []part) string {
	var b strings.Builder
	for _, p := range parts {
		b.WriteString(p.bytes)
	}
	return b.String()
}

func sum(s string) uint32 { return crc32.Checksum([]byte(s), crc32.MakeTable(crc32.Castagnoli)) }

// seal lays the sum behind letters and contents.
func seal(s string) string { return s + fixed32(sum(s)).bytes }

func dataBytes(p api.FilePair) string     { return seal("STRADAT1" + joined(dataParts(p))) }
func deltaBytes(p api.FilePair) string    { return seal("STRADEL1" + joined(deltaParts(p))) }
func manifestBytes(m api.Manifest) string { return seal("STRAMAN1" + joined(manifestParts(m))) }

// endSum tells the sum with which bytes end.
func endSum(b string) uint32 { return binary.LittleEndian.Uint32([]byte(b[len(b)-4:])) }

func dataName(id int) string       { return fmt.Sprintf("data-%08d", id) }
func deltaName(id, gen int) string { return fmt.Sprintf("delta-%08d-%08d", id, gen) }
func manifestName(gen int) string  { return fmt.Sprintf("manifest-%08d", gen) }

// listed tells the files of a checkpoint, the manifest last: what it says of its pairs is made from them, whatever they are.
func listed(gen, next int, upto uint64, pairs ...api.FilePair) []api.File {
	var fs []api.File
	m := api.Manifest{Gen: gen, Next: next, Upto: upto}
	for _, p := range pairs {
		n := api.PairName{Id: p.Id, Lo: p.Lo, Hi: p.Hi, Rows: len(p.Data), Gen: p.Gen, Gone: len(p.Gone)}
		b := dataBytes(p)
		fs = append(fs, api.File{Name: dataName(p.Id), Bytes: b})
		n.DataSum = endSum(b)
		if p.Gen != 0 {
			b := deltaBytes(p)
			fs = append(fs, api.File{Name: deltaName(p.Id, p.Gen), Bytes: b})
			n.DeltaSum = endSum(b)
		}
		m.Pairs = append(m.Pairs, n)
	}
	return append(fs, api.File{Name: manifestName(gen), Bytes: manifestBytes(m)})
}
