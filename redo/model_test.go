package redo_test

import (
	"fmt"
	"math/rand"
	"slices"
	"strings"
	"testing"

	"strata/api"
	"strata/redo"
)

// twin is a device with its logs, beside the chapter's.
type twin struct {
	*rand.Rand
	t     *testing.T
	d     *redo.Device
	plain *disk
	logs  []*redo.Log
	books []*journal
	met   map[string]int
	stamp uint64
}

// same counts what a call was answered, and holds it against what the chapter says.
func (w *twin) same(what string, e api.Errno, got, right any) {
	w.met[fmt.Sprintf("%s %d", what, e)]++
	if a, b := fmt.Sprint(got), fmt.Sprint(right); a != b {
		w.t.Fatalf("%s: %.300s, want %.300s\n%s", what, a, b, w.plain.look())
	}
}

func (w *twin) code(what string, got, right api.Errno) { w.same(what, right, got, right) }

func (w *twin) name() string {
	others := []string{"x", "y", "log-000000", "log-1", "log-00000a", "log--00001", "Log", "", "log-0000001", "tog-000001"}
	if there := w.plain.segments(); len(there) > 0 && w.Intn(2) == 0 {
		return nameOf(there[w.Intn(len(there))])
	}
	if w.Intn(6) == 0 {
		return nameOf(1 + w.Intn(6))
	}
	return others[w.Intn(len(others))]
}

// harmless is a name that is no segment's.
func (w *twin) harmless() string {
	for {
		if name := w.name(); number(name) == 0 {
			return name
		}
	}
}

// file makes a changing call of the device, by hand.
func (w *twin) file(name func() string) {
	a, b := name(), name()
	switch w.Intn(7) {
	case 0:
		w.code("Create", w.d.Create(a), w.plain.create(a))
	case 1, 2:
		s := strings.Repeat("x", w.Intn(80))
		w.code("Append", w.d.Append(a, s), w.plain.append(a, s))
	case 3:
		w.code("Sync", w.d.Sync(a), w.plain.sync(a))
	case 4:
		w.code("Rename", w.d.Rename(a, b), w.plain.rename(a, b))
	case 5:
		w.code("Remove", w.d.Remove(a), w.plain.remove(a))
	case 6:
		w.code("SyncDir", w.d.SyncDir(), w.plain.syncDir())
	}
}

func (w *twin) crash() {
	dir := w.Intn(w.d.Changes()+3) - 1
	var keep []int
	for range w.Intn(len(w.d.List()) + 2) {
		keep = append(keep, w.Intn(150)-20)
	}
	w.code("Crash", w.d.Crash(dir, keep...), api.OK)
	w.plain.crash(dir, keep...)
}

func (w *twin) open() {
	o := api.LogOptions{Segment: 256 + w.Intn(150), Batch: 1 + w.Intn(4)}
	switch w.Intn(12) {
	case 0:
		o.First = w.plain.replay().tail.Next + uint64(w.Intn(5)) - 2
	case 1:
		o = []api.LogOptions{{Segment: 255, Batch: 1}, {Segment: 262145, Batch: 1}, {Segment: 256}, {Segment: 256, Batch: 65}, {Segment: 256, Batch: 1, First: 1 << 62}}[w.Intn(5)]
	}
	l, tail, e := redo.Open(w.d, o)
	book, rightTail, right := plainOpen(w.plain, o)
	w.same("Open", right, []any{l != nil, tail, e}, []any{book != nil, rightTail, right})
	if l != nil {
		w.logs, w.books = append(w.logs, l), append(w.books, book)
	}
}

func (w *twin) log(l *redo.Log, book *journal) {
	switch w.Intn(9) {
	case 0, 1, 2, 3:
		w.stamp++
		c := anyCommit(w.Rand, w.stamp)
		if w.Intn(3) == 0 {
			c.Writes = append(c.Writes, put(c.Writes[len(c.Writes)-1].Key+"z", strings.Repeat("d", w.Intn(200))))
		}
		if w.Intn(15) == 0 {
			c.Stamp = 0
		}
		n, e := l.Append(c)
		right, code := book.append(c)
		w.same("Log.Append", code, []any{n, e}, []any{right, code})
	case 4:
		w.code("Flush", l.Flush(), book.flush())
	case 5:
		list, e := l.Sync()
		right, code := book.sync()
		w.same("Log.Sync", code, []any{list, e}, []any{right, code})
	case 6:
		stamp := uint64(w.Intn(20))
		w.code("Mark", l.Mark(stamp), book.mark(stamp))
	case 7:
		lsn := book.next - uint64(w.Intn(30))
		if w.Intn(3) == 0 {
			lsn = uint64(w.Intn(12))
		}
		n, e := l.Trim(lsn)
		right, code := book.trim(lsn)
		w.same("Trim", code, []any{n, e}, []any{right, code})
		if n > 1 {
			w.met["Trim of several"]++
		}
	case 8:
		w.same("Next", 0, []any{l.Next(), l.Durable()}, []any{book.next, book.kept})
	}
}

// step does something by chance. Where meddles holds, segments are touched by hand now and then.
func (w *twin) step(meddles bool) {
	switch n := w.Intn(100); {
	case n < 3:
		w.open()
	case n < 5:
		w.crash()
	case n < 7:
		cut := w.Intn(14) - 2
		w.code("Cut", w.d.Cut(cut), w.plain.setCut(cut))
	case n < 17:
		w.file(w.harmless)
	case n < 18 && meddles:
		w.file(w.name)
	case n < 19 && meddles:
		name, at, x := w.name(), w.Intn(300)-3, byte(1<<w.Intn(8))
		w.code("Rot", w.d.Rot(name, at, x), w.plain.rot(name, at, x))
	case len(w.logs) == 0:
		w.open()
	case n < 30 && w.books[len(w.books)-1].stopped(): // else most of a run would be spent with logs that have stopped
		if w.Intn(2) == 0 {
			w.crash()
		}
		w.open()
	case n < 95:
		w.log(w.logs[len(w.logs)-1], w.books[len(w.books)-1])
	default:
		i := w.Intn(len(w.logs))
		w.log(w.logs[i], w.books[i])
	}
}

// told holds the reading of the whole log against the chapter's.
func (w *twin) told() {
	commits, marks, tail := redo.Replay(w.d)
	right := w.plain.replay()
	w.same("Replay", api.Errno(tail.Kind), []any{commits, marks, tail}, []any{right.commits, right.marks, right.tail})
	from := uint64(w.Intn(20))
	var list []api.Logged
	for n, c := range redo.Since(w.d, from) {
		list = append(list, api.Logged{Lsn: n, Commit: c})
	}
	above := slices.DeleteFunc(right.commits, func(c api.Logged) bool { return c.Lsn <= from })
	w.same("Since", 0, list, above)
}

// begun is a device of some size; of some the numbers have nearly run out, others are nearly full.
func begun(t *testing.T, seed int64, met map[string]int) *twin {
	r := rand.New(rand.NewSource(seed))
	limit := 200 + r.Intn(3000)
	w := &twin{Rand: r, t: t, d: device(t, limit), plain: newDisk(limit), met: met}
	files := 0
	if seed%100 == 0 {
		files = 1021
	}
	for i := range files {
		w.code("Create", w.d.Create(fmt.Sprint("f", i)), w.plain.create(fmt.Sprint("f", i)))
	}
	n, first := 1, uint64(1)
	if seed%5 == 0 {
		n = 999990 + r.Intn(8)
	}
	if seed%7 == 0 {
		first = api.MaxTime - uint64(r.Intn(40))
	}
	if n*int(first) != 1 {
		name := nameOf(n)
		w.code("Create", w.d.Create(name), w.plain.create(name))
		w.code("Append", w.d.Append(name, headOf(n, first)), w.plain.append(name, headOf(n, first)))
	}
	w.code("SyncDir", w.d.SyncDir(), w.plain.syncDir())
	return w
}

// Every answer and every byte of a device, its directories and its logs, in random runs, against the chapter's.
func TestModel(t *testing.T) {
	met := map[string]int{}
	for seed := range int64(450) {
		w := begun(t, seed, met)
		for i := range 250 {
			w.step(seed%3 == 0)
			if a, b := look(w.d), w.plain.look(); a != b {
				t.Fatalf("seed %d, step %d:\n%s\nwant\n%s", seed, i, a, b)
			}
			if i%10 == 0 {
				w.told()
			}
			if i%60 == 0 && len(w.plain.now()) < 100 {
				if a, b := deep(w.d), w.plain.deep(); a != b {
					t.Fatalf("seed %d, step %d: what crashes would leave:\n%s\nwant\n%s", seed, i, a, b)
				}
			}
			if t.Failed() {
				t.Fatalf("seed %d, step %d", seed, i)
			}
		}
	}
	t.Log(met)
	for _, what := range []string{
		"Open 0", "Open 2", "Open 115", "Open 117", "Log.Append 0", "Log.Append 112", "Log.Append 115", "Log.Append 118",
		"Flush 0", "Flush 115", "Flush 118", "Log.Sync 0", "Log.Sync 115", "Log.Sync 118", "Mark 0", "Mark 2", "Mark 115", "Mark 118",
		"Trim 0", "Trim 118", "Trim of several", "Cut 117", "Create 115", "Create 114", "Append 115", "Replay 0", "Replay 1", "Replay 2", "Replay 3", "Replay 5", "Replay 7",
	} {
		if met[what] < 5 {
			t.Errorf("%s was met %d times", what, met[what])
		}
	}
}
