package redo_test

import (
	"encoding/binary"
	"fmt"
	"hash/crc32"
	"math"
	"os"
	"runtime/debug"
	"strings"
	"testing"

	"strata/api"
	"strata/redo"
)

// The tests make many things that live shortly: collecting them that often would take most of the time.
func TestMain(m *testing.M) {
	debug.SetGCPercent(800)
	os.Exit(m.Run())
}

// want holds what was answered against what should have been.
func want(t *testing.T, what string, got, right any) {
	t.Helper()
	if a, b := fmt.Sprintf("%+v", got), fmt.Sprintf("%+v", right); a != b {
		t.Errorf("%s: %.600s, want %.600s", what, a, b)
	}
}

// strange are numbers at and beyond all bounds.
func strange() []int {
	return []int{math.MinInt, math.MinInt32, -257, -2, -1, 0, 1, 2, 3, 5, 23, 24, 25, 64, 65, 255, 256, 257, 1024, 131072, 262144, 262145, 1 << 20, 1<<20 + 1, 1<<31 - 1, 1 << 31, 1 << 32, 1<<32 + 1, 1 << 62, math.MaxInt - 1, math.MaxInt}
}

// device gives a device without files.
func device(t *testing.T, limit int) *redo.Device {
	t.Helper()
	d, e := redo.NewDevice(limit)
	if d == nil || e != api.OK {
		t.Fatalf("P11.1: NewDevice(%d): %v, %d", limit, d != nil, e)
	}
	return d
}

// ok looks whether calls were answered OK.
func ok(t *testing.T, what string, answers ...api.Errno) {
	t.Helper()
	for i, e := range answers {
		if e != api.OK {
			t.Errorf("%s: call %d: %d, want OK", what, i, e)
		}
	}
}

// lay makes a file with these bytes, of which the first ones are synced.
func lay(t *testing.T, d *redo.Device, name, bytes string, synced int) {
	t.Helper()
	ok(t, "lay "+name, d.Create(name), d.Append(name, bytes[:synced]), d.Sync(name), d.Append(name, bytes[synced:]))
}

// none are devices that are none.
func none(t *testing.T) []*redo.Device {
	var zero redo.Device
	d := device(t, 1000)
	lay(t, d, nameOf(1), headOf(1, 1)+data(1, c1()), 30)
	byValue := *d
	return []*redo.Device{nil, {}, &zero, new(redo.Device), &byValue}
}

// read tells a file that is there.
func read(t *testing.T, d *redo.Device, name string) string {
	t.Helper()
	s, e := d.Read(name)
	if e != api.OK {
		t.Errorf("P11.6: Read(%q): %d", name, e)
	}
	return s
}

// look tells all that a device shows: files with their bytes, changes, room.
func look(d *redo.Device) string {
	var b strings.Builder
	for _, f := range d.List() {
		s, e := d.Read(f.Name)
		fmt.Fprintf(&b, "%s %d/%d %d %q\n", f.Name, f.Synced, f.Size, e, s)
	}
	bytes, files := d.Room()
	fmt.Fprintf(&b, "%d changes, room %d, %d", d.Changes(), bytes, files)
	return b.String()
}

// deep tells more: what each crash would leave of a device, with no volatile byte and with all of them.
func deep(d *redo.Device) string {
	all := make([]int, api.MaxFiles)
	for i := range all {
		all[i] = math.MaxInt
	}
	text := look(d)
	for n := range d.Changes() + 1 {
		c := d.Copy()
		c.Crash(n)
		text += "\n- " + look(c)
		c = d.Copy()
		c.Crash(n, all...)
		text += "\n+ " + look(c)
	}
	return text
}

// powerOf tells how many changing calls a device has left (100, if they are at least so many), and whether one was refused.
func powerOf(d *redo.Device) (int, bool) {
	c, n := d.Copy(), 0
	for n < 100 && c.SyncDir() == api.OK {
		n++
	}
	return n, d.Copy().Cut(5) == api.ErrPower
}

func put(key, data string) api.Write { return api.Write{Kind: api.WritePut, Key: key, Data: data} }
func del(key string) api.Write       { return api.Write{Kind: api.WriteDelete, Key: key} }

func commit(stamp uint64, writes ...api.Write) api.Commit {
	return api.Commit{Stamp: stamp, Writes: writes}
}

// sized is a commit whose Blob has just so many bytes: 12 to 86000.
func sized(stamp uint64, size int) api.Commit {
	if stamp > 127 {
		panic("the stamp has one byte")
	}
	for n := max(1, size/530); n <= api.MaxWrites; n++ {
		c := commit(stamp)
		for i := range n {
			c.Writes = append(c.Writes, put(fmt.Sprintf("%03d", i), ""))
		}
		for i := range c.Writes {
			have := len(blobOf(bytesOf(c)))
			if have > size {
				break
			}
			for more := min(size-have, api.MaxData); more >= 0; more-- {
				c.Writes[i].Data = strings.Repeat("d", more)
				if len(blobOf(bytesOf(c))) <= size {
					break
				}
			}
			if len(blobOf(bytesOf(c))) == size {
				return c
			}
		}
	}
	panic("no commit of that size")
}

// The bytes of the chapter's section Words, laid down without the program.

func uvarint(n uint64) string { return string(binary.AppendUvarint(nil, n)) }
func fixed32(n uint32) string { return string(binary.LittleEndian.AppendUint32(nil, n)) }
func fixed64(n uint64) string { return string(binary.LittleEndian.AppendUint64(nil, n)) }
func blobOf(s string) string  { return uvarint(uint64(len(s))) + s }

var castagnoli = crc32.MakeTable(crc32.Castagnoli)

func sum(s string) string { return fixed32(crc32.Checksum([]byte(s), castagnoli)) }

func bytesOf(c api.Commit) string {
	var b strings.Builder
	b.WriteString(uvarint(c.Stamp) + uvarint(uint64(len(c.Writes))))
	for _, w := range c.Writes {
		b.WriteString(string([]byte{byte(w.Kind)}) + blobOf(w.Key))
		if w.Kind == 1 {
			b.WriteString(blobOf(w.Data))
		}
	}
	return b.String()
}

func bodyOf(list ...api.Commit) string {
	text := ""
	for _, c := range list {
		text += blobOf(bytesOf(c))
	}
	return text
}

func frameOf(kind byte, lsn uint64, body string) string {
	head := "SF" + string([]byte{kind, 0}) + fixed32(uint32(len(body))) + fixed64(lsn) + sum(body)
	return head + sum(head) + body
}

func data(lsn uint64, list ...api.Commit) string { return frameOf(1, lsn, bodyOf(list...)) }
func mark(lsn, stamp uint64) string              { return frameOf(2, lsn, fixed64(stamp)) }
func end(lsn uint64) string                      { return frameOf(3, lsn, "") }

func headOf(number int, first uint64) string {
	head := "STRALOG1" + fixed32(uint32(number)) + fixed64(first)
	return head + sum(head)
}

func nameOf(number int) string { return fmt.Sprintf("log-%06d", number) }

// turned is a text with one byte turned.
func turned(s string, at int, x byte) string {
	return s[:at] + string([]byte{s[at] ^ x}) + s[at+1:]
}
