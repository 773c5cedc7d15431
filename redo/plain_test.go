package redo_test

import (
	"encoding/binary"
	"fmt"
	"maps"
	"slices"
	"strconv"
	"strings"

	"strata/api"
)

// This is the chapter once more, written down as plainly as it goes: every directory that ever was is kept whole, the reading goes from front to back, and nothing is left out because it would come to the same.

type inode struct {
	bytes  string
	synced int
}

type disk struct {
	limit int
	dirs  []map[string]*inode // the one that is kept, and the one behind each change
	cut   int                 // below 0: none
	dead  bool
	age   int // crashes, and opens that came to their calls
}

func newDisk(limit int) *disk {
	return &disk{limit: limit, dirs: []map[string]*inode{{}}, cut: -1}
}

func (d *disk) now() map[string]*inode { return d.dirs[len(d.dirs)-1] }

func (d *disk) changed() map[string]*inode {
	d.dirs = append(d.dirs, maps.Clone(d.now()))
	return d.now()
}

func (d *disk) call(do func() api.Errno) api.Errno {
	if d.cut == 0 {
		d.dead = true
		return api.ErrPower
	}
	e := do()
	if e == api.OK && d.cut > 0 {
		d.cut--
	}
	return e
}

func plainName(s string) bool {
	return len(s) >= 1 && len(s) <= 32 && strings.Trim(s, "abcdefghijklmnopqrstuvwxyz0123456789.-_") == ""
}

func (d *disk) missing(name string) api.Errno {
	if !plainName(name) {
		return api.ErrName
	}
	if d.now()[name] == nil {
		return api.ErrNoFile
	}
	return api.OK
}

func (d *disk) room() (int, int) {
	bytes := d.limit
	for _, f := range d.now() {
		bytes -= len(f.bytes)
	}
	return bytes, 1024 - len(d.now())
}

func (d *disk) create(name string) api.Errno {
	return d.call(func() api.Errno {
		switch _, files := d.room(); {
		case d.missing(name) == api.ErrName:
			return api.ErrName
		case d.now()[name] != nil:
			return api.ErrTaken
		case files == 0:
			return api.ErrSpace
		}
		d.changed()[name] = &inode{}
		return api.OK
	})
}

func (d *disk) append(name, data string) api.Errno {
	return d.call(func() api.Errno {
		if e := d.missing(name); e != api.OK {
			return e
		}
		if bytes, _ := d.room(); bytes-len(data) < 0 {
			return api.ErrSpace
		}
		d.now()[name].bytes += data
		return api.OK
	})
}

func (d *disk) sync(name string) api.Errno {
	return d.call(func() api.Errno {
		if e := d.missing(name); e != api.OK {
			return e
		}
		d.now()[name].synced = len(d.now()[name].bytes)
		return api.OK
	})
}

func (d *disk) rename(from, to string) api.Errno {
	return d.call(func() api.Errno {
		if !plainName(from) || !plainName(to) {
			return api.ErrName
		}
		if e := d.missing(from); e != api.OK || from == to {
			return e
		}
		f := d.now()[from]
		m := d.changed()
		delete(m, from)
		m[to] = f
		return api.OK
	})
}

func (d *disk) remove(name string) api.Errno {
	return d.call(func() api.Errno {
		if e := d.missing(name); e != api.OK {
			return e
		}
		delete(d.changed(), name)
		return api.OK
	})
}

func (d *disk) syncDir() api.Errno {
	return d.call(func() api.Errno {
		d.dirs = d.dirs[len(d.dirs)-1:]
		return api.OK
	})
}

func (d *disk) setCut(n int) api.Errno {
	if d.dead {
		return api.ErrPower
	}
	d.cut = max(n, -1)
	return api.OK
}

func (d *disk) crash(dir int, keep ...int) {
	m := d.dirs[max(0, min(dir, len(d.dirs)-1))]
	for i, name := range slices.Sorted(maps.Keys(m)) {
		f := m[name]
		n := 0
		if i < len(keep) && keep[i] > 0 {
			n = keep[i]
		}
		if n > len(f.bytes)-f.synced {
			n = len(f.bytes) - f.synced
		}
		f.bytes = f.bytes[:f.synced+n]
		f.synced = len(f.bytes)
	}
	d.dirs, d.cut, d.dead = []map[string]*inode{m}, -1, false
	d.age++
}

func (d *disk) rot(name string, at int, x byte) api.Errno {
	if e := d.missing(name); e != api.OK {
		return e
	}
	f := d.now()[name]
	if at < 0 || at >= len(f.bytes) {
		return api.ErrPlace
	}
	f.bytes = turned(f.bytes, at, x)
	return api.OK
}

// look tells what look tells of a device.
func (d *disk) look() string {
	var b strings.Builder
	for _, name := range slices.Sorted(maps.Keys(d.now())) {
		f := d.now()[name]
		fmt.Fprintf(&b, "%s %d/%d 0 %q\n", name, f.synced, len(f.bytes), f.bytes)
	}
	bytes, files := d.room()
	fmt.Fprintf(&b, "%d changes, room %d, %d", len(d.dirs)-1, bytes, files)
	return b.String()
}

func (d *disk) copy() *disk {
	c := &disk{limit: d.limit, cut: d.cut, dead: d.dead}
	twins := map[*inode]*inode{}
	for _, m := range d.dirs {
		n := map[string]*inode{}
		for name, f := range m {
			if twins[f] == nil {
				twin := *f
				twins[f] = &twin
			}
			n[name] = twins[f]
		}
		c.dirs = append(c.dirs, n)
	}
	return c
}

// deep tells what deep tells of a device.
func (d *disk) deep() string {
	all := make([]int, 1024)
	for i := range all {
		all[i] = 1 << 62
	}
	text := d.look()
	for n := range len(d.dirs) {
		c := d.copy()
		c.crash(n)
		text += "\n- " + c.look()
		c = d.copy()
		c.crash(n, all...)
		text += "\n+ " + c.look()
	}
	return text
}

// number tells the number of a segment's name, 0 of any other.
func number(name string) int {
	n, err := strconv.ParseUint(strings.TrimPrefix(name, "log-"), 10, 64)
	if err != nil || n > 999999 || nameOf(int(n)) != name {
		return 0
	}
	return int(n)
}

func (d *disk) segments() []int {
	var list []int
	for name := range d.now() {
		if n := number(name); n > 0 {
			list = append(list, n)
		}
	}
	slices.Sort(list)
	return list
}

// plainFrame reads a frame.
func plainFrame(s string, at int) (f api.Frame, next, kind int) {
	if at < 0 || at > len(s) || len(s[at:]) < 24 {
		return f, at, 1
	}
	h := s[at : at+24]
	size := binary.LittleEndian.Uint32([]byte(h[4:8]))
	lsn := binary.LittleEndian.Uint64([]byte(h[8:16]))
	may := map[byte]bool{1: size >= 1 && size <= 131072, 2: size == 8, 3: size == 0}[h[2]]
	switch {
	case h[:2] != "SF":
		return f, at, 2
	case sum(h[:20]) != h[20:]:
		return f, at, 3
	case h[3] != 0 || lsn == 0 || lsn >= 1<<62 || !may:
		return f, at, 4
	case len(s)-at-24 < int(size):
		return f, at, 1
	case sum(s[at+24:at+24+int(size)]) != h[16:20]:
		return f, at, 5
	}
	next = at + 24 + int(size)
	return api.Frame{Kind: int(h[2]), Lsn: lsn, Body: s[at+24 : next]}, next, 0
}

// plainBody reads the commits of a body.
func plainBody(body string) (list []api.Commit, good bool) {
	for len(body) > 0 {
		n, w := binary.Uvarint([]byte(body))
		if w <= 0 || uvarint(n) != body[:w] || n > uint64(len(body)-w) {
			return nil, false
		}
		c, good := plainCommit(body[w : w+int(n)])
		if !good {
			return nil, false
		}
		list = append(list, c)
		body = body[w+int(n):]
	}
	return list, len(list) > 0
}

type seg struct {
	number int
	first  uint64
}

// replayed is what a reading tells; gave: the segments that gave something.
type replayed struct {
	commits []api.Logged
	marks   []uint64
	tail    api.Tail
	gave    []seg
}

// replay reads a log, by the five points of P11.16.
func (d *disk) replay() replayed {
	var r replayed
	known, next := false, uint64(0)
	for _, n := range d.segments() {
		s := d.now()[nameOf(n)].bytes
		at := func(kind, offset int) { r.tail.Kind, r.tail.Segment, r.tail.Offset = kind, n, offset }
		if len(s) < 24 {
			at(1, 0)
			continue
		}
		first := binary.LittleEndian.Uint64([]byte(s[12:20]))
		if s[:8] != "STRALOG1" {
			at(2, 0)
			continue
		}
		if sum(s[:20]) != s[20:24] {
			at(3, 0)
			continue
		}
		if s[8:12] != fixed32(uint32(n)) || first == 0 || first > 1<<62-1 {
			at(4, 0)
			continue
		}
		if known && next != first {
			at(7, 0)
			break
		}
		known, next = true, first
		gave := false
		place := 24
		for {
			if place == len(s) {
				at(0, place)
				break
			}
			f, behind, kind := plainFrame(s, place)
			if kind != 0 {
				at(kind, place)
				break
			}
			if f.Lsn != next {
				at(6, place)
				break
			}
			if f.Kind == 3 {
				at(0, behind)
				break
			}
			if f.Kind == 2 {
				stamp := binary.LittleEndian.Uint64([]byte(f.Body))
				if stamp == 0 || stamp > 1<<62-1 {
					at(4, place)
					break
				}
				r.marks = append(r.marks, stamp)
				gave = true
			}
			if f.Kind == 1 {
				list, good := plainBody(f.Body)
				if !good || uint64(len(list)) > 1<<62-1-next {
					at(4, place)
					break
				}
				for _, c := range list {
					r.commits = append(r.commits, api.Logged{Lsn: next, Commit: c})
					next++
				}
				gave = true
			}
			place = behind
		}
		if gave {
			r.gave = append(r.gave, seg{n, first})
		}
	}
	r.tail.Next = 1
	if known {
		r.tail.Next = next
	}
	return r
}

// journal is a log.
type journal struct {
	d      *disk
	o      api.LogOptions
	age    int
	halted bool
	segs   []seg
	next   uint64
	kept   uint64 // Durable
	buffer []api.Commit
}

func plainOpen(d *disk, o api.LogOptions) (*journal, api.Tail, api.Errno) {
	if o.Segment < 256 || o.Segment > 262144 || o.Batch < 1 || o.Batch > 64 || o.First >= 1<<62 {
		return nil, api.Tail{}, api.ErrArg
	}
	r := d.replay()
	l := &journal{d: d, o: o, next: max(r.tail.Next, o.First)}
	there := d.segments()
	fresh := 1
	if len(there) > 0 {
		fresh = slices.Max(there) + 1
	}
	bytes, files := d.room()
	if fresh > 999999 || bytes < 24 || files == 0 {
		return nil, r.tail, api.ErrSpace
	}
	if o.First <= r.tail.Next {
		l.segs = r.gave
	}
	d.age++
	l.age = d.age
	for _, n := range there {
		if e := d.sync(nameOf(n)); e != api.OK {
			return nil, r.tail, e
		}
	}
	if e := begin(d, fresh, l.next); e != api.OK {
		return nil, r.tail, e
	}
	removed := 0
	slices.Reverse(there)
	for _, n := range there {
		if !slices.ContainsFunc(l.segs, func(s seg) bool { return s.number == n }) {
			if e := d.remove(nameOf(n)); e != api.OK {
				return nil, r.tail, e
			}
			removed++
		}
	}
	if removed > 0 {
		if e := d.syncDir(); e != api.OK {
			return nil, r.tail, e
		}
	}
	l.segs = append(l.segs, seg{fresh, l.next})
	l.kept = l.next - 1
	return l, r.tail, api.OK
}

func begin(d *disk, n int, first uint64) api.Errno {
	for _, call := range []func() api.Errno{
		func() api.Errno { return d.create(nameOf(n)) },
		func() api.Errno { return d.append(nameOf(n), headOf(n, first)) },
		func() api.Errno { return d.sync(nameOf(n)) },
		d.syncDir,
	} {
		if e := call(); e != api.OK {
			return e
		}
	}
	return api.OK
}

func (l *journal) stopped() bool { return l.halted || l.age != l.d.age }

// refused stops the log.
func (l *journal) refused(e api.Errno) api.Errno {
	if e != api.OK {
		l.halted = true
		return api.ErrHalt
	}
	return api.OK
}

func (l *journal) put(text string, lsn uint64) api.Errno {
	last := l.segs[len(l.segs)-1]
	size := 0
	if f := l.d.now()[nameOf(last.number)]; f != nil {
		size = len(f.bytes)
	}
	turns := size > 24 && size+len(text)+24 > l.o.Segment
	bytes, files := l.d.room()
	if bytes < len(text) || turns && (bytes < len(text)+48 || files == 0 || last.number == 999999) {
		return api.ErrSpace
	}
	if turns {
		if e := l.refused(l.d.append(nameOf(last.number), end(lsn))); e != api.OK {
			return e
		}
		if e := l.refused(l.d.sync(nameOf(last.number))); e != api.OK {
			return e
		}
		if e := l.refused(begin(l.d, last.number+1, lsn)); e != api.OK {
			return e
		}
		last = seg{last.number + 1, lsn}
		l.segs = append(l.segs, last)
	}
	return l.refused(l.d.append(nameOf(last.number), text))
}

func (l *journal) flush() api.Errno {
	if l.stopped() {
		return api.ErrHalt
	}
	if len(l.buffer) == 0 {
		return api.OK
	}
	lsn := l.next - uint64(len(l.buffer))
	e := l.put(data(lsn, l.buffer...), lsn)
	if e == api.OK {
		l.buffer = nil
	}
	return e
}

func (l *journal) append(c api.Commit) (uint64, api.Errno) {
	if l.stopped() {
		return 0, api.ErrHalt
	}
	if _, good := plainCommit(bytesOf(c)); !good || !hasBytes(c) {
		return 0, api.ErrRecord
	}
	if l.next == 1<<62-1 {
		return 0, api.ErrSpace
	}
	if len(l.buffer) == l.o.Batch || len(bodyOf(append(slices.Clone(l.buffer), c)...)) > 131072 {
		if e := l.flush(); e != api.OK {
			return 0, e
		}
	}
	l.buffer = append(l.buffer, c)
	l.next++
	return l.next - 1, api.OK
}

func (l *journal) sync() ([]uint64, api.Errno) {
	if e := l.flush(); e != api.OK {
		return nil, e
	}
	if e := l.refused(l.d.sync(nameOf(l.segs[len(l.segs)-1].number))); e != api.OK {
		return nil, e
	}
	var list []uint64
	for n := l.kept + 1; n < l.next; n++ {
		list = append(list, n)
	}
	l.kept = l.next - 1
	return list, api.OK
}

func (l *journal) mark(stamp uint64) api.Errno {
	if l.stopped() {
		return api.ErrHalt
	}
	if stamp == 0 || stamp >= 1<<62 {
		return api.ErrArg
	}
	if e := l.flush(); e != api.OK {
		return e
	}
	return l.put(mark(l.next, stamp), l.next)
}

func (l *journal) trim(lsn uint64) (int, api.Errno) {
	if l.stopped() {
		return 0, api.ErrHalt
	}
	n := 0
	for len(l.segs) > 1 && slices.ContainsFunc(l.segs[1:], func(s seg) bool { return s.first <= min(lsn, 1<<62-1)+1 }) {
		if e := l.refused(l.d.remove(nameOf(l.segs[0].number))); e != api.OK {
			return 0, e
		}
		l.segs = slices.Clone(l.segs[1:])
		n++
	}
	if n > 0 {
		if e := l.refused(l.d.syncDir()); e != api.OK {
			return 0, e
		}
	}
	return n, api.OK
}
