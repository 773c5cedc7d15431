package redo_test

import (
	"fmt"
	"maps"
	"math"
	"math/rand"
	"strings"
	"testing"

	"strata/api"
	"strata/redo"
)

// truth is what P11.25 promises of a device: what was ever appended under a number, what has to be told, and what stood in a segment that a Trim removed (it may be acknowledged behind that). No two commits have the same bytes.
type truth struct {
	appended map[uint64][]string
	must     map[uint64]string
	trimmed  map[string]bool
}

func newTruth() *truth {
	return &truth{map[uint64][]string{}, map[uint64]string{}, map[string]bool{}}
}

// clone is for another course of things; what was appended only grows, and is one for all.
func (x *truth) clone() *truth {
	return &truth{x.appended, maps.Clone(x.must), maps.Clone(x.trimmed)}
}

// writer is a log, and what it took.
type writer struct {
	*redo.Log
	took map[uint64]string
}

func (x *truth) append(w *writer, c api.Commit) {
	if n, e := w.Append(c); e == api.OK {
		w.took[n] = bytesOf(c)
		x.appended[n] = append(x.appended[n], bytesOf(c))
	}
}

func (x *truth) sync(w *writer) bool {
	list, e := w.Sync()
	for _, n := range list {
		if !x.trimmed[w.took[n]] {
			x.must[n] = w.took[n]
		}
	}
	return e == api.OK
}

// open opens a log: all that it has found has to be told from now on.
func (x *truth) open(t *testing.T, d *redo.Device, o api.LogOptions) *writer {
	t.Helper()
	commits, _, _ := redo.Replay(d)
	l, _, e := redo.Open(d, o)
	if e != api.OK {
		return nil
	}
	for _, c := range commits {
		x.must[c.Lsn] = bytesOf(c.Commit)
		delete(x.trimmed, bytesOf(c.Commit))
	}
	if n := len(commits); n > 0 && l.Durable() != commits[n-1].Lsn {
		t.Fatalf("P11.18: Durable is %d behind %d", l.Durable(), commits[n-1].Lsn)
	}
	return &writer{l, map[uint64]string{}}
}

// trim gives up what stands in the segments that are removed.
func (x *truth) trim(d *redo.Device, w *writer, lsn uint64) {
	before := map[string]string{}
	for _, f := range d.List() {
		before[f.Name], _ = d.Read(f.Name)
	}
	w.Trim(lsn)
	for name, s := range before {
		if _, e := d.Read(name); e == api.OK || number(name) == 0 {
			continue
		}
		for at := 24; at < len(s); {
			f, next, kind := plainFrame(s, at)
			if kind != api.TailClean {
				break
			}
			list, _ := plainBody(f.Body)
			for i, c := range list {
				delete(x.must, f.Lsn+uint64(i))
				x.trimmed[bytesOf(c)] = true
			}
			at = next
		}
	}
}

// holds tells what of the promise is broken; "": nothing.
func (x *truth) holds(d *redo.Device) string {
	commits, _, _ := redo.Replay(d)
	told := 0
	for i, c := range commits {
		if c.Lsn != commits[0].Lsn+uint64(i) {
			return fmt.Sprintf("the number %d behind %d", c.Lsn, commits[0].Lsn)
		}
		s := bytesOf(c.Commit)
		right, promised := x.must[c.Lsn]
		if promised {
			told++
			if right != s {
				return fmt.Sprintf("the commit %d is %q, and was %q", c.Lsn, s, right)
			}
			continue
		}
		known := false
		for _, a := range x.appended[c.Lsn] {
			known = known || a == s
		}
		if !known {
			return fmt.Sprintf("the commit %d, %q, was never appended", c.Lsn, s)
		}
	}
	if told != len(x.must) {
		return fmt.Sprintf("%d commits are told of %d that have to be", told, len(x.must))
	}
	return ""
}

// volatile tells the greatest number of bytes of a file that are not synced.
func volatile(d *redo.Device) int {
	most := 0
	for _, f := range d.List() {
		most = max(most, f.Size-f.Synced)
	}
	return most
}

// crashes makes copies of a device crash: with every number of changes kept and every number of bytes (the same of all files), and tells of each.
func crashes(d *redo.Device, each func(what string, c *redo.Device)) {
	bytes := volatile(d)
	for dir := range d.Changes() + 1 {
		for n := range bytes + 1 {
			keep := make([]int, len(d.List())+d.Changes()+1)
			for i := range keep {
				keep[i] = n
			}
			c := d.Copy()
			c.Crash(dir, keep...)
			each(fmt.Sprintf("Crash(%d, %d)", dir, n), c)
		}
	}
}

// P11.25, by random runs.
func TestKept(t *testing.T) {
	tried, acked, refused := 0, 0, 0
	for seed := range int64(700) {
		r := rand.New(rand.NewSource(seed))
		d := device(t, 500+r.Intn(4000))
		x := newTruth()
		o := api.LogOptions{Segment: 256 + r.Intn(200), Batch: 1 + r.Intn(4)}
		var logs []*writer
		stamp := uint64(0)
		check := func(what string, x *truth, d *redo.Device) {
			if fault := x.holds(d); fault != "" {
				t.Fatalf("P11.25: seed %d, %s: %s\n%s", seed, what, fault, look(d))
			}
		}
		for range 90 {
			if len(logs) == 0 || r.Intn(25) == 0 {
				if w := x.open(t, d, o); w != nil {
					logs = append(logs, w)
				} else {
					refused++
					d.Crash(r.Intn(5), r.Intn(100))
				}
				check("an Open", x, d)
				continue
			}
			w := logs[len(logs)-1]
			if r.Intn(12) == 0 {
				w = logs[r.Intn(len(logs))]
			}
			switch n := r.Intn(30); {
			case n < 12:
				stamp++
				c := anyCommit(r, stamp)
				if r.Intn(2) == 0 {
					c.Writes = append(c.Writes, put(c.Writes[len(c.Writes)-1].Key+"z", strings.Repeat("d", r.Intn(120))))
				}
				x.append(w, c)
			case n < 14:
				w.Flush()
			case n < 19:
				if x.sync(w) {
					acked++
				}
			case n < 21:
				w.Mark(1 + uint64(r.Intn(9)))
			case n < 22:
				x.trim(d, w, w.Next()-uint64(r.Intn(20)))
			case n < 24:
				d.Cut(r.Intn(15) - 2)
			case n < 27: // other files, and the directory, as others use the device
				name := string("abc"[r.Intn(3)])
				switch r.Intn(6) {
				case 0:
					d.Create(name)
				case 1:
					d.Append(name, strings.Repeat("x", r.Intn(300)))
				case 2:
					d.Rename(name, "a")
				case 3:
					d.Remove(name)
				case 4:
					d.SyncDir()
				case 5:
					d.Sync(name)
				}
			case n < 28:
				crashes(d, func(what string, c *redo.Device) {
					tried++
					check(what, x, c)
					if tried%40 == 0 {
						y := x.clone()
						y.open(t, c, o)
						check(what+", an Open", y, c)
					}
				})
			case n < 29:
				d.Crash(r.Intn(d.Changes()+2), r.Intn(200), r.Intn(200), r.Intn(200), r.Intn(200), r.Intn(200), r.Intn(200))
				logs = logs[len(logs)-1:]
			}
			check("a step", x, d)
		}
	}
	t.Log(tried, "crashes,", acked, "syncs,", refused, "opens refused")
	if tried < 5000 || acked < 500 || refused < 50 {
		t.Errorf("%d crashes, %d syncs, %d opens refused", tried, acked, refused)
	}
}

// script makes the same calls each time: commits, turns, marks, trims, a second log.
func script(t *testing.T, d *redo.Device, x *truth) {
	o := api.LogOptions{Segment: 256, Batch: 2}
	for part := range 3 {
		w := x.open(t, d, o)
		if w == nil {
			return
		}
		for i := range 5 {
			stamp := uint64(10*part + i + 1)
			x.append(w, commit(stamp, put("key", strings.Repeat(fmt.Sprint(i), 30))))
			if i%2 == 1 {
				x.sync(w)
			}
			if i == 2 {
				w.Mark(stamp)
			}
			if i == 3 {
				x.trim(d, w, w.Next()-4)
			}
		}
		w.Flush()
	}
}

// P11.25, by one run cut behind every call of the device, with every crash, an Open behind it that is cut behind every call too, and every crash of the directory then.
func TestKeptAtEveryCall(t *testing.T) {
	tried, calls := 0, 0
	for cut := 0; ; cut++ {
		d, x := device(t, 5000), newTruth()
		ok(t, "Cut", d.Cut(cut))
		script(t, d, x)
		if _, dead := powerOf(d); !dead {
			calls = cut
			break
		}
		last := volatile(d)
		crashes(d, func(what string, c *redo.Device) {
			tried++
			if fault := x.holds(c); fault != "" {
				t.Fatalf("P11.25: cut behind %d, %s: %s\n%s", cut, what, fault, look(c))
			}
			if !strings.HasSuffix(what, ", 0)") && !strings.HasSuffix(what, fmt.Sprintf(", %d)", last)) && !strings.HasSuffix(what, ", 30)") {
				return
			}
			for again := 0; ; again++ {
				d, y := c.Copy(), x.clone()
				ok(t, "Cut", d.Cut(again))
				opened := y.open(t, d, api.LogOptions{Segment: 256, Batch: 2}) != nil
				for dir := range d.Changes() + 1 {
					for _, n := range []int{0, 12, math.MaxInt} {
						tried++
						e := d.Copy()
						e.Crash(dir, n, n, n, n, n, n, n, n)
						if fault := y.holds(e); fault != "" {
							t.Fatalf("P11.25: cut behind %d, %s, an Open cut behind %d, Crash(%d, %d): %s\n%s", cut, what, again, dir, n, fault, look(e))
						}
					}
				}
				if opened {
					return
				}
			}
		})
	}
	t.Log(tried, "crashes,", calls, "calls")
	if tried < 5000 || calls < 40 {
		t.Errorf("%d crashes, %d calls", tried, calls)
	}
}
