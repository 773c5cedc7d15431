package image_test

import (
	"fmt"
	"math/rand"
	"slices"
	"testing"

	"strata/api"
	"strata/image"
	"strata/redo"
)

// told tells what is read of a device: rows, manifest, error.
func told(d *redo.Device) string { return toldOf(image.Files(d)) }

func toldOf(fs []api.File) string {
	rows, m, e := image.Load(fs)
	return fmt.Sprintf("%v %v %d", rows, m, e)
}

// chapters are the files of three checkpoints, the last one with all that there can be: pairs that are new, worn, merged.
func chapters(t *testing.T) [][]api.File {
	im := made(t, 2)
	absorb(t, im, commit(1, put("a", "1"), put("b", "1")), commit(2, put("c", "2")))
	list := [][]api.File{closed(t, im, 2)}
	absorb(t, im, commit(3, put("a", "3")), commit(4, put("d", "4"), put("e", "4")))
	list = append(list, closed(t, im, 4))
	ok(t, "Merge", im.Merge(1))
	absorb(t, im, commit(5, del("b"), put("f", "5")), commit(6, put("c", "6")))
	return append(list, closed(t, im, 6))
}

// P12.15: a crash behind each step of a Saver, with every number of the directory's changes and of bytes kept.
func TestCrashBehindEachStep(t *testing.T) {
	list := chapters(t)
	for last := range list {
		d := device(t, 10000)
		for _, fs := range list[:last] {
			s := saver(t, d, fs)
			for !s.Step() {
			}
			ok(t, "P12.12", s.Code())
		}
		before := told(d)
		fs := list[last]
		whole := toldOf(slices.Concat(list[:last+1]...))
		if before == whole {
			t.Fatalf("the checkpoints are alike: %s", before)
		}
		s := saver(t, d, fs)
		total := len(saverCalls(fs))
		met := map[string]int{}
		for n := range total + 1 {
			if n > 0 {
				s.Step()
			}
			most := 0
			for _, f := range d.List() {
				most = max(most, f.Size-f.Synced)
			}
			for dir := range d.Changes() + 1 {
				for bytes := range most + 1 {
					c := d.Copy()
					keep := all()
					for i := range keep {
						keep[i] = bytes
					}
					ok(t, "Crash", c.Crash(dir, keep...))
					got := told(c)
					met[got]++
					switch {
					case n == total && got != whole, n < total-1 && got != before, got != before && got != whole:
						t.Errorf("P12.15: checkpoint %d, behind step %d, with %d changes and %d bytes: %s", last, n, dir, bytes, got)
					}
					goesOn(t, c)
				}
			}
		}
		want(t, "P12.15: the saver was done", []any{s.Step(), s.Code()}, []any{true, api.OK})
		if met[before] < 20 || met[whole] < 2 {
			t.Errorf("met: %v", met)
		}
	}
}

// goesOn looks whether the next checkpoint can be laid down beside what a crash has left.
func goesOn(t *testing.T, d *redo.Device) {
	fs := image.Files(d)
	im, e := image.Resume(1, fs)
	if e != api.OK {
		t.Fatalf("P12.10: behind a crash: %d", e)
	}
	absorb(t, im, commit(100, put("a", "100"), del("c")))
	more := closed(t, im, 100)
	for _, f := range more {
		if _, there := plainFile(fs, f.Name); there {
			t.Errorf("P12.10: %s is written again", f.Name)
		}
	}
	rows := im.Rows()
	s := saver(t, d, more)
	for !s.Step() {
	}
	got, _, e := image.Load(image.Files(d))
	if s.Code() != api.OK || e != api.OK || !slices.Equal(got, rows) {
		t.Errorf("P12.15: behind a crash, %d, %d, %v, want %v", s.Code(), e, got, rows)
	}
}

// sailor makes random checkpoints on a device, over and over cut by crashes.
type sailor struct {
	t      *testing.T
	r      *rand.Rand
	d      *redo.Device
	im     *image.Image
	stamp  uint64
	played []api.Commit // those that were absorbed by the image of now, or stood in the checkpoint from which it went on
	met    map[string]int
}

func (s *sailor) change() []api.File {
	for range s.r.Intn(5) {
		s.stamp++
		c := commit(s.stamp)
		for key := range 6 {
			switch s.r.Intn(6) {
			case 0, 1:
				c.Writes = append(c.Writes, put(string(rune('a'+key)), fmt.Sprint(s.stamp)))
			case 2:
				c.Writes = append(c.Writes, del(string(rune('a'+key))))
			}
		}
		if len(c.Writes) > 0 {
			absorb(s.t, s.im, c)
			s.played = append(s.played, c)
		}
	}
	for range s.r.Intn(3) {
		s.im.Merge(s.r.Intn(4))
	}
	return closed(s.t, s.im, max(s.im.Upto(), s.stamp-min(s.stamp, uint64(s.r.Intn(2)))))
}

// crash keeps anything.
func (s *sailor) crash() {
	keep := make([]int, 40)
	for i := range keep {
		keep[i] = s.r.Intn(60) - 5
	}
	ok(s.t, "Crash", s.d.Crash(s.r.Intn(s.d.Changes()+2)-s.r.Intn(2), keep...))
}

// resume goes on from what is there.
func (s *sailor) resume() {
	im, e := image.Resume(1+s.r.Intn(4), image.Files(s.d))
	if e != api.OK {
		s.t.Fatalf("P12.10: %d", e)
	}
	s.im = im
	s.played = slices.DeleteFunc(s.played, func(c api.Commit) bool { return c.Stamp > im.Upto() })
	s.stamp = max(s.stamp, im.Upto())
}

func (s *sailor) save() {
	rows, m, e := image.Load(image.Files(s.d))
	before := []any{rows, m, e}
	fs := s.change()
	list, _ := image.DecodeManifest(fs[len(fs)-1].Bytes)
	after := []any{replayed(s.played, list.Upto), list, api.OK}
	x := saver(s.t, s.d, fs)
	steps, total := s.r.Intn(2*len(saverCalls(fs))), len(saverCalls(fs))
	if s.r.Intn(2) == 0 { // the power goes, or the saver is not stepped on
		ok(s.t, "Cut", s.d.Cut(steps))
		for !x.Step() {
		}
	} else {
		for range steps {
			x.Step()
		}
	}
	if steps >= total {
		want(s.t, "P12.12", []any{x.Step(), x.Code()}, []any{true, api.OK})
		if s.r.Intn(2) == 0 {
			s.met["done"]++
			want(s.t, "P12.15: done", load3(s.d), after)
			ok(s.t, "Cut", s.d.Cut(-1))
			return
		}
	}
	s.crash()
	got := fmt.Sprint(load3(s.d))
	switch {
	case steps >= total && got != fmt.Sprint(after), steps < total-1 && got != fmt.Sprint(before), got != fmt.Sprint(after) && got != fmt.Sprint(before):
		s.t.Errorf("P12.15: cut behind %d of %d: %s, ahead %v, new %v", steps, total, got, before, after)
	}
	if got == fmt.Sprint(after) {
		s.met["new"]++
	} else {
		s.met["ahead"]++
	}
	s.resume()
}

func load3(d *redo.Device) []any {
	rows, m, e := image.Load(image.Files(d))
	return []any{rows, m, e}
}

func (s *sailor) clean() {
	before := load3(s.d)
	n := s.r.Intn(12)
	ok(s.t, "Cut", s.d.Cut(n))
	_, e := image.Clean(s.d)
	want(s.t, "P12.13: the checkpoint stays", load3(s.d), before)
	if e != api.OK {
		s.crash()
		want(s.t, "P12.13: also behind a crash", load3(s.d), before)
		s.met["cut clean"]++
	}
	ok(s.t, "Cut", s.d.Cut(-1))
	s.resume() // files are gone: the numbers may begin lower
}

// P12.15, with crashes over and over, checkpoints that go on from what they leave, and cleaning.
func TestCrashesOverAndOver(t *testing.T) {
	met := map[string]int{}
	for seed := int64(1); seed <= 600; seed++ {
		s := &sailor{t: t, r: rand.New(rand.NewSource(seed)), d: device(t, 100000), im: made(t, 2), met: met}
		for range 12 {
			s.save()
			if s.r.Intn(4) == 0 {
				s.clean()
			}
		}
		if t.Failed() {
			t.Fatalf("seed %d", seed)
		}
	}
	for what, least := range map[string]int{"done": 300, "new": 200, "ahead": 500, "cut clean": 50} {
		if met[what] < least {
			t.Errorf("%s was met %d times, want at least %d", what, met[what], least)
		}
	}
}
