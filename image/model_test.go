package image_test

import (
	"fmt"
	"math/rand"
	"slices"
	"testing"

	"strata/api"
	"strata/image"
)

// world is an image beside the plain one.
type world struct {
	t    *testing.T
	r    *rand.Rand
	im   *image.Image
	p    *plain
	keys int // how many keys there are
	met  map[string]int
}

func (w *world) note(what string, e api.Errno) { w.met[fmt.Sprint(what, " ", e)]++ }

func (w *world) key() string { return string(rune('a' + w.r.Intn(w.keys))) }

// commit is one that mostly may be, near the times that are being worked at.
func (w *world) commit() api.Commit {
	c := api.Commit{Stamp: w.p.upto + uint64(w.r.Intn(30))}
	for key := range w.keys {
		if w.r.Intn(w.keys) < 2 {
			c.Writes = append(c.Writes, put(string(rune('a'+key)), fmt.Sprint(w.r.Intn(1000))))
			if w.r.Intn(3) == 0 {
				c.Writes[len(c.Writes)-1] = del(string(rune('a' + key)))
			}
		}
	}
	if len(c.Writes) == 0 {
		c.Writes = []api.Write{put(w.key(), "x")}
	}
	switch w.r.Intn(60) {
	case 0:
		c.Stamp = strangeTimes()[w.r.Intn(len(strangeTimes()))]
	case 1:
		c.Writes = append(c.Writes, put("a", ""))
	case 2:
		c.Writes = nil
	}
	return c
}

func (w *world) absorb() {
	var cs []api.Commit
	for range w.r.Intn(6) {
		cs = append(cs, w.commit())
	}
	n, e := w.im.Absorb(cs...)
	right, code := w.p.absorb(cs)
	want(w.t, "P12.5", []any{n, e}, []any{right, code})
	w.note("Absorb", e)
}

func (w *world) close() {
	upto := w.p.upto + uint64(w.r.Intn(40)) - 3
	if w.r.Intn(40) == 0 {
		upto = strangeTimes()[w.r.Intn(len(strangeTimes()))]
		if upto <= api.MaxTime && upto > 1000000 && w.r.Intn(10) > 0 {
			upto = 0 // the end of all times comes rarely: nothing goes on behind it
		}
	}
	before := state(w.im)
	fs, e := w.im.Close(upto)
	right, code := w.p.close(upto)
	want(w.t, "P12.6", []any{fs, e}, []any{right, code})
	w.note("Close", e)
	if e != api.OK {
		want(w.t, "P12.6: nothing is changed", state(w.im), before)
		return
	}
	rows := w.im.Rows()
	want(w.t, "P12.14: the rows are the log's replay", rows, replayed(w.p.played, w.p.upto))
	loaded, m, e := image.Load(w.p.files)
	want(w.t, "P12.14: Load of all files gives the same", []any{loaded, m.Gen, m.Next, m.Upto, len(m.Pairs), e}, []any{rows, w.p.gen, w.p.next, upto, len(w.p.pairs), api.OK})
}

func (w *world) merge() {
	at := w.r.Intn(len(w.p.pairs)+2) - 1
	if w.r.Intn(30) == 0 {
		at = strange()[w.r.Intn(len(strange()))]
	}
	e := w.im.Merge(at)
	want(w.t, "P12.7", e, w.p.merge(at))
	w.note("Merge", e)
}

// leap gives files of names whose numbers are great, and such as are none of this layer.
func (w *world) leap() []api.File {
	near := func() int { return api.MaxFileNo - w.r.Intn(12) }
	list := []api.File{
		{Name: dataName(w.p.next + w.r.Intn(5))}, {Name: deltaName(w.p.next+w.r.Intn(5), w.p.gen+1+w.r.Intn(5))},
		{Name: "tmp-" + manifestName(w.p.gen+1+w.r.Intn(5))}, {Name: manifestName(w.p.gen + 1 + w.r.Intn(5))},
		{Name: "data-99"}, {Name: "data-00000000"}, {Name: "tmp-data-99999999"}, {Name: "manifest-999999999"}, {Name: "delta-99999999-00000000"}, {Name: "delta-00000000-99999999"}, {Name: ""},
	}
	if w.r.Intn(4) == 0 {
		list = append(list, api.File{Name: dataName(near())}, api.File{Name: "tmp-" + manifestName(near())})
	}
	w.r.Shuffle(len(list), func(i, j int) { list[i], list[j] = list[j], list[i] })
	return list[:w.r.Intn(len(list))]
}

// resume goes on from the files, with others among them, some of them lost.
func (w *world) resume() {
	fs := append(slices.Clone(w.p.files), w.leap()...)
	if w.r.Intn(2) == 0 {
		for range w.r.Intn(3) {
			if len(fs) > 0 {
				at := w.r.Intn(len(fs))
				fs = slices.Delete(fs, at, at+1)
			}
		}
	}
	w.r.Shuffle(len(fs), func(i, j int) { fs[i], fs[j] = fs[j], fs[i] })
	fill := 1 + w.r.Intn(5)
	if w.r.Intn(20) == 0 {
		fill = strange()[w.r.Intn(len(strange()))]
	}
	im, e := image.Resume(fill, fs)
	p, code := w.p.resume(fill, fs)
	want(w.t, "P12.10", []any{im != nil, e}, []any{p != nil, code})
	w.note("Resume", e)
	if p != nil && im != nil {
		w.im, w.p = im, p
	}
}

func (w *world) step() {
	switch n := w.r.Intn(100); {
	case n < 45:
		w.absorb()
	case n < 75:
		w.close()
	case n < 95:
		w.merge()
	default:
		w.resume()
	}
	want(w.t, "P12.8", state(w.im), w.p.state())
}

func begun(t *testing.T, seed int64, met map[string]int) *world {
	r := rand.New(rand.NewSource(seed))
	fill := 1 + r.Intn(6)
	return &world{t: t, r: r, im: made(t, fill), p: newPlain(fill), keys: 1 + r.Intn(12), met: met}
}

// P12.4 to P12.10, P12.14: whatever is absorbed, closed, merged and resumed, in any order.
func TestRandomRuns(t *testing.T) {
	met := map[string]int{}
	for seed := int64(1); seed <= 250; seed++ {
		w := begun(t, seed, met)
		for range 60 {
			w.step()
		}
		if t.Failed() {
			t.Fatalf("seed %d", seed)
		}
	}
	for what, least := range map[string]int{
		fmt.Sprint("Absorb ", api.OK): 1000, fmt.Sprint("Absorb ", api.ErrRecord): 100, fmt.Sprint("Absorb ", api.ErrStamp): 100,
		fmt.Sprint("Close ", api.OK): 1000, fmt.Sprint("Close ", api.ErrStamp): 100, fmt.Sprint("Close ", api.ErrNumbers): 10,
		fmt.Sprint("Merge ", api.OK): 500, fmt.Sprint("Merge ", api.ErrMerge): 100, fmt.Sprint("Merge ", api.ErrNumbers): 3,
		fmt.Sprint("Resume ", api.OK): 200, fmt.Sprint("Resume ", api.ErrFill): 5, fmt.Sprint("Resume ", api.ErrMissing): 5,
	} {
		if met[what] < least {
			t.Errorf("%s was met %d times, want at least %d", what, met[what], least)
		}
	}
}

// The same with as many pairs as there may be.
func TestRandomRunsOfManyPairs(t *testing.T) {
	met := map[string]int{}
	for seed := int64(1); seed <= 6; seed++ {
		w := begun(t, seed, met)
		w.im, w.p, w.keys = made(t, 1), newPlain(1), 40
		for range 40 {
			base := w.p.upto
			if len(w.p.pending) > 0 {
				base = max(base, w.p.pending[len(w.p.pending)-1].Stamp)
			}
			for i := range 5 + w.r.Intn(30) {
				c := commit(base+uint64(i)+1, put(w.key(), fmt.Sprint(i)))
				n, e := w.im.Absorb(c)
				right, code := w.p.absorb([]api.Commit{c})
				want(t, "P12.5", []any{n, e}, []any{right, code})
			}
			w.close()
			for range w.r.Intn(12) {
				w.merge()
			}
			want(t, "P12.8", state(w.im), w.p.state())
			if t.Failed() {
				t.Fatalf("seed %d", seed)
			}
		}
	}
	if met[fmt.Sprint("Close ", api.ErrPairs)] < 5 || met[fmt.Sprint("Close ", api.OK)] < 50 {
		t.Errorf("met: %v", met)
	}
}

// damage makes another list of files of a checkpoint's: bytes lost, added, turned, files lost, doubled, under each other's names.
func damage(r *rand.Rand, fs []api.File) []api.File {
	fs = slices.Clone(fs)
	for range 1 + r.Intn(3) {
		if len(fs) == 0 {
			break
		}
		i, j := r.Intn(len(fs)), r.Intn(len(fs))
		b := []byte(fs[i].Bytes)
		switch r.Intn(8) {
		case 0:
			fs = slices.Delete(fs, i, i+1)
		case 1:
			fs[i].Bytes = fs[j].Bytes
		case 2:
			fs[i].Name = fs[j].Name
		case 3:
			if len(b) > 0 {
				b[r.Intn(len(b))] ^= byte(1 + r.Intn(255))
				fs[i].Bytes = string(b)
			}
		case 4:
			fs[i].Bytes = string(b[:r.Intn(len(b)+1)])
		case 5:
			fs = append(fs, fs[i])
		case 6:
			fs[i], fs[j] = fs[j], fs[i]
		case 7:
			fs = slices.Insert(fs, j, api.File{Name: fs[i].Name, Bytes: fs[j].Bytes})
		}
	}
	return fs
}

// P12.9, P12.10: damaged files, against the plain reading.
func TestDamagedFiles(t *testing.T) {
	met := map[api.Errno]int{}
	older := 0
	for seed := int64(1); seed <= 150; seed++ {
		w := begun(t, seed, map[string]int{})
		for range 25 {
			w.absorb()
			w.close()
			w.merge()
		}
		for range 20 {
			fs := damage(w.r, w.p.files[max(0, len(w.p.files)-12):])
			rows, m, e := image.Load(fs)
			pairs, right, code := plainLoad(fs)
			want(t, "P12.9", []any{rows, m, e}, []any{plainRows(pairs), right, code})
			met[e]++
			if e == api.OK && m.Gen != 0 && m.Gen != w.p.gen {
				older++
			}
			w.p.files = append(w.p.files, fs...)
			w.resume()
			want(t, "P12.10", state(w.im), w.p.state())
		}
		if t.Failed() {
			t.Fatalf("seed %d", seed)
		}
	}
	if met[api.OK] < 100 || met[api.ErrMissing] < 100 || older < 50 {
		t.Errorf("met: %v, an older one %d times", met, older)
	}
}

// contents turns the contents of a file, which is sealed again: so what it says is looked at, not only its sum.
func contents(r *rand.Rand, s string) string {
	b := []byte(s[:len(s)-4])
	for range 1 + r.Intn(2) {
		at := 8 + r.Intn(len(b)-7)
		switch r.Intn(3) {
		case 0:
			if at < len(b) {
				b[at] = byte(r.Intn(256)) >> r.Intn(8)
			}
		case 1:
			b = slices.Insert(b, at, byte(r.Intn(256))>>r.Intn(8))
		case 2:
			if at < len(b) {
				b = slices.Delete(b, at, at+1)
			}
		}
	}
	return seal(string(b))
}

// P12.2: contents of all kinds, against the plain reading; and of what is read the very bytes are given.
func TestRandomContents(t *testing.T) {
	r := rand.New(rand.NewSource(1))
	met := map[string]int{}
	for range 60000 {
		s := contents(r, dataBytes(pairOf(nil)))
		p, e := image.DecodeData(s)
		right, code := plainData(s)
		want(t, fmt.Sprintf("P12.2: DecodeData(%q)", s), []any{p, e}, []any{right, code})
		if back, e2 := image.EncodeData(p); e == api.OK && (back != s || e2 != api.OK) {
			t.Errorf("P12.2: EncodeData of DecodeData(%q): %q, %d", s, back, e2)
		}
		met[fmt.Sprint("data ", e)]++
		s = contents(r, deltaBytes(goneOf(nil)))
		p, e = image.DecodeDelta(s)
		right, code = plainDelta(s)
		want(t, fmt.Sprintf("P12.2: DecodeDelta(%q)", s), []any{p, e}, []any{right, code})
		if back, e2 := image.EncodeDelta(p); e == api.OK && (back != s || e2 != api.OK) {
			t.Errorf("P12.2: EncodeDelta of DecodeDelta(%q): %q, %d", s, back, e2)
		}
		met[fmt.Sprint("delta ", e)]++
		s = contents(r, manifestBytes(listOf(nil)))
		m, e := image.DecodeManifest(s)
		list, code := plainManifest(s)
		want(t, fmt.Sprintf("P12.2: DecodeManifest(%q)", s), []any{m, e}, []any{list, code})
		if back, e2 := image.EncodeManifest(m); e == api.OK && (back != s || e2 != api.OK) {
			t.Errorf("P12.2: EncodeManifest of DecodeManifest(%q): %q, %d", s, back, e2)
		}
		met[fmt.Sprint("manifest ", e)]++
		if t.Failed() {
			return
		}
	}
	for _, kind := range []string{"data", "delta", "manifest"} {
		if met[fmt.Sprint(kind, " ", api.OK)] < 1000 || met[fmt.Sprint(kind, " ", api.ErrForm)] < 1000 {
			t.Errorf("met: %v", met)
		}
	}
}
