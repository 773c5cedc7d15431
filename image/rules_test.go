package image_test

import (
	"fmt"
	"math/rand"
	"slices"
	"strings"
	"testing"

	"strata/api"
	"strata/image"
	"strata/redo"
)

// P0.1: images that are none: nil, and such as New and Resume did not make.
func TestNoImage(t *testing.T) {
	var zero image.Image
	for i, im := range []*image.Image{nil, {}, &zero, new(image.Image)} {
		what := fmt.Sprint("image ", i)
		for _, cs := range [][]api.Commit{nil, {commit(1, put("a", ""))}, {commit(0)}} {
			n, e := im.Absorb(cs...)
			want(t, "P12.5: "+what, []any{n, e}, []any{0, api.ErrNil})
		}
		for _, upto := range strangeTimes() {
			fs, e := im.Close(upto)
			want(t, "P12.6: "+what, []any{fs == nil, e}, []any{true, api.ErrNil})
		}
		for _, at := range strange() {
			want(t, "P12.7: "+what, im.Merge(at), api.ErrNil)
		}
		want(t, "P12.8: "+what, []any{im.Upto(), im.Pending(), im.Pairs() == nil, im.Rows() == nil}, []any{0, 0, true, true})
	}
	for _, s := range []*image.Saver{nil, {}, new(image.Saver)} {
		want(t, "P12.12: no saver", []any{s.Step(), s.Step(), s.Code()}, []any{true, true, api.ErrNil})
	}
	// of devices that NewDevice did not make nothing is promised, but that no call panics
	d := device(t, 1000)
	lay(t, d, base()[:1]...)
	byValue := *d
	for _, d := range []*redo.Device{{}, new(redo.Device), &byValue} {
		image.Files(d)
		image.Clean(d)
		if s, _ := image.NewSaver(d, base()); s != nil {
			for !s.Step() {
			}
			s.Code()
		}
	}
}

func anyText(r *rand.Rand) string {
	b := make([]byte, r.Intn(40))
	r.Read(b)
	return string(b)
}

func anyNumber(r *rand.Rand) int { return strange()[r.Intn(len(strange()))] }

func anyTime(r *rand.Rand) uint64 { return strangeTimes()[r.Intn(len(strangeTimes()))] }

func anyPair(r *rand.Rand) api.FilePair {
	p := api.FilePair{Id: anyNumber(r), Lo: anyTime(r), Hi: anyTime(r), Gen: anyNumber(r)}
	for range r.Intn(4) {
		p.Data = append(p.Data, datum(anyTime(r), anyText(r), anyText(r)))
	}
	for range r.Intn(4) {
		p.Gone = append(p.Gone, erasure(anyTime(r), anyTime(r), anyText(r)))
	}
	return p
}

func anyManifest(r *rand.Rand) api.Manifest {
	m := api.Manifest{Gen: anyNumber(r), Next: anyNumber(r), Upto: anyTime(r)}
	for range r.Intn(4) {
		m.Pairs = append(m.Pairs, api.PairName{Id: anyNumber(r), Lo: anyTime(r), Hi: anyTime(r), Rows: anyNumber(r), Gen: anyNumber(r), Gone: anyNumber(r), DataSum: r.Uint32(), DeltaSum: r.Uint32()})
	}
	return m
}

// anyBytes are of no file, of one, or of one with other contents.
func anyBytes(r *rand.Rand) string {
	k := kinds()[r.Intn(3)]
	switch r.Intn(4) {
	case 0:
		return anyText(r)
	case 1:
		return seal(k.letters + anyText(r))
	case 2:
		return contents(r, seal(k.letters+joined(k.parts)))
	}
	return base()[r.Intn(4)].Bytes
}

func anyName(r *rand.Rand) string {
	list := append(append(ourNames(), otherNames()...), names(base())...)
	if r.Intn(3) == 0 {
		return anyText(r)
	}
	return list[r.Intn(len(list))]
}

func anyFiles(r *rand.Rand) []api.File {
	var fs []api.File
	if r.Intn(2) == 0 {
		fs = damage(r, base())
	}
	for range r.Intn(5) {
		fs = append(fs, api.File{Name: anyName(r), Bytes: anyBytes(r)})
	}
	return fs
}

// anyCommit may be, or not.
func anyCommit(r *rand.Rand) api.Commit {
	c := api.Commit{Stamp: uint64(r.Intn(50))}
	if r.Intn(5) == 0 {
		c.Stamp = anyTime(r)
	}
	for range r.Intn(3) {
		c.Writes = append(c.Writes, api.Write{Kind: r.Intn(4), Key: anyText(r), Data: anyText(r)})
	}
	return c
}

// P0.1: no call panics, at any argument, and each ends.
func TestNoPanics(t *testing.T) {
	for seed := int64(1); seed <= 300; seed++ {
		r := rand.New(rand.NewSource(seed))
		im, _ := image.New(1 + r.Intn(3))
		d := device(t, 2000)
		s, _ := image.NewSaver(d, base())
		for range 150 {
			switch r.Intn(18) {
			case 0:
				image.EncodeData(anyPair(r))
			case 1:
				image.EncodeDelta(anyPair(r))
			case 2:
				image.EncodeManifest(anyManifest(r))
			case 3:
				image.DecodeData(anyBytes(r))
			case 4:
				image.DecodeDelta(anyBytes(r))
			case 5:
				image.DecodeManifest(anyBytes(r))
			case 6:
				if x, e := image.New(anyNumber(r)); (x != nil) != (e == api.OK) {
					t.Errorf("P12.4: %v, %d", x != nil, e)
				}
			case 7:
				image.Load(anyFiles(r))
			case 8:
				if x, _ := image.Resume(anyNumber(r), anyFiles(r)); x != nil {
					im = x
				}
			case 9:
				im.Absorb(anyCommit(r), anyCommit(r))
			case 10:
				im.Absorb(commit(im.Upto()+uint64(r.Intn(4)), put("a", ""), del("b")))
			case 11:
				im.Close(im.Upto() + uint64(r.Intn(3)))
			case 12:
				if r.Intn(10) == 0 {
					im.Close(anyTime(r))
				}
			case 13:
				im.Merge(r.Intn(3))
				im.Merge(anyNumber(r))
			case 14:
				_ = state(im)
			case 15:
				if x, e := image.NewSaver(d, anyFiles(r)); x != nil && e == api.OK {
					s = x
				}
			case 16:
				s.Step()
				s.Code()
				d.Crash(r.Intn(5), r.Intn(30))
			case 17:
				image.Files(d)
				image.Clean(d)
			}
		}
	}
}

// P0.1: what is handed in is neither changed nor kept.
func TestWhatIsHandedIn(t *testing.T) {
	p := pairOf(nil)
	p.Gen, p.Gone = 2, goneOf(nil).Gone
	m := listOf(nil)
	right := fmt.Sprintf("%+v %+v", p, m)
	image.EncodeData(p)
	image.EncodeDelta(p)
	image.EncodeManifest(m)
	want(t, "P0.1: what is encoded is not changed", fmt.Sprintf("%+v %+v", p, m), right)

	writes := []api.Write{put("a", "1"), put("b", "2"), put("spare", "")}
	cs := []api.Commit{commit(7, writes[:2]...), commit(5, del("x")), commit(5, del("y")), commit(3, put("z", ""))}
	text := fmt.Sprintf("%+v %+v", cs, writes)
	im := made(t, 2)
	want(t, "P12.5", answer(im.Absorb(cs...)), fmt.Sprint("2 ", api.ErrStamp))
	want(t, "P0.1: commits are not changed", fmt.Sprintf("%+v %+v", cs, writes), text)
	writes[0], writes[1] = del("q"), api.Write{}
	cs[0], cs[1] = api.Commit{}, api.Commit{}
	closed(t, im, 10)
	want(t, "P0.1: nor kept", im.Rows(), []api.Row{row("a", "1", 7), row("b", "2", 7)})

	fs := append(base(), api.File{Name: "tmp-manifest-00000050"}, api.File{Name: base()[0].Name, Bytes: "second"})
	text = fmt.Sprintf("%+v", fs)
	image.Load(fs)
	im = resumed(t, 2, fs...)
	d := device(t, 10000)
	list := base()
	s := saver(t, d, list)
	want(t, "P0.1: files are not changed", []string{fmt.Sprintf("%+v", fs), fmt.Sprintf("%+v", list)}, []string{text, fmt.Sprintf("%+v", base())})
	before := state(im)
	spoil(fs)
	want(t, "P0.1: nor kept by Resume", state(im), before)
	spoil(list)
	for !s.Step() {
	}
	byName := base()
	slices.SortFunc(byName, func(a, b api.File) int { return strings.Compare(a.Name, b.Name) })
	want(t, "P0.1: nor kept by NewSaver", []any{s.Code(), image.Files(d)}, []any{api.OK, byName})
}

// spoil writes over a list, and behind it.
func spoil[T any](list []T) {
	var zero T
	_ = append(list, zero, zero, zero)
	full := list[:cap(list)]
	for i := range full {
		full[i] = zero
	}
}

// spoilPairs spoils pairs' own lists too, each by itself, and looks whether the others are what they were.
func spoilPairs(t *testing.T, pairs []api.FilePair) {
	t.Helper()
	for i := range pairs {
		for range 2 {
			before := fmt.Sprintf("%+v %+v", pairs[:i], pairs[i+1:])
			gone := fmt.Sprintf("%+v", pairs[i].Gone)
			spoil(pairs[i].Data)
			want(t, "P12.8: a pair's erasures", fmt.Sprintf("%+v", pairs[i].Gone), gone)
			spoil(pairs[i].Gone)
			want(t, "P12.8: the other pairs", fmt.Sprintf("%+v %+v", pairs[:i], pairs[i+1:]), before)
		}
	}
	spoil(pairs)
}

// P0.1: each list that is answered is new memory, all through.
func TestAnswersAreNewMemory(t *testing.T) {
	im := four(t)
	before := state(im)
	pairs, rows := im.Pairs(), im.Rows()
	told := fmt.Sprintf("%+v %+v", pairs, rows)
	spoilPairs(t, im.Pairs())
	spoil(im.Rows())
	want(t, "P12.8: another answer, and a later one", []string{fmt.Sprintf("%+v %+v", pairs, rows), state(im)}, []string{told, before})
	spoilPairs(t, pairs)
	spoil(rows)
	absorb(t, im, commit(20, put("a", "20"), put("n", "")))
	twin := four(t)
	absorb(t, twin, commit(20, put("a", "20"), put("n", "")))
	fs, right := closed(t, im, 20), closed(t, twin, 20)
	want(t, "P12.6: behind it", []any{fs, state(im)}, []any{right, state(twin)})
	spoil(fs)
	fs, right = closed(t, im, 21), closed(t, twin, 21)
	want(t, "P12.6: a later Close", []any{fs, state(im)}, []any{right, state(twin)})

	x, m, _ := image.Load(base())
	y, n, _ := image.Load(base())
	re := resumed(t, 2, base()...)
	spoil(x)
	spoil(m.Pairs)
	want(t, "P12.9: another answer", []any{y, n}, []any{twoRows(), manifestOf(t, base())})
	spoilPairs(t, re.Pairs())
	want(t, "P12.10", state(re), fmt.Sprintf("13 0 %+v %+v", two(), twoRows()))

	d := device(t, 10000)
	lay(t, d, base()...)
	files := image.Files(d)
	text := fmt.Sprint(files)
	spoil(image.Files(d))
	want(t, "P12.11", []string{fmt.Sprint(files), fmt.Sprint(image.Files(d))}, []string{text, text})

	p, _ := image.DecodeData(dataBytes(pairOf(nil)))
	q, _ := image.DecodeData(dataBytes(pairOf(nil)))
	spoil(p.Data)
	want(t, "P12.2: data", q, pairOf(nil))
	p, _ = image.DecodeDelta(deltaBytes(goneOf(nil)))
	q, _ = image.DecodeDelta(deltaBytes(goneOf(nil)))
	spoil(p.Gone)
	want(t, "P12.2: delta", q, goneOf(nil))
	a, _ := image.DecodeManifest(manifestBytes(listOf(nil)))
	b, _ := image.DecodeManifest(manifestBytes(listOf(nil)))
	spoil(a.Pairs)
	want(t, "P12.2: manifest", b, listOf(nil))
}

// tale makes one image's calls of a seed, a few at a time.
func tale(t *testing.T, seed int64) func() string {
	w := begun(t, seed, map[string]int{})
	return func() string {
		for range 6 {
			w.step()
		}
		return state(w.im)
	}
}

// P0.1: the same calls are answered alike, and images have nothing in common: their calls may come in between each other.
func TestNothingInCommon(t *testing.T) {
	for seed := int64(1); seed < 40; seed++ {
		var alone [2][]string
		for i := range alone {
			next := tale(t, seed+int64(i))
			for range 8 {
				alone[i] = append(alone[i], next())
			}
		}
		one, two := tale(t, seed), tale(t, seed+1)
		for i := range 8 {
			want(t, "the first", one(), alone[0][i])
			want(t, "the second", two(), alone[1][i])
		}
	}
}
