package image_test

import (
	"encoding/binary"
	"fmt"
	"regexp"
	"slices"
	"sort"
	"strconv"

	"strata/api"
)

// The chapter written down plainly a second time: slow, without a map of what stands, on the tests' own bytes.

// Reading: loosely from the left; then the very bytes must come out again, and say what may stand there.

type loose struct {
	s   []byte
	bad bool
}

func (l *loose) number() uint64 {
	n, size := binary.Uvarint(l.s)
	if size <= 0 {
		l.bad = true
		return 0
	}
	l.s = l.s[size:]
	return n
}

func (l *loose) bytes(n uint64) string {
	if n > uint64(len(l.s)) {
		l.bad = true
		return ""
	}
	s := string(l.s[:n])
	l.s = l.s[n:]
	return s
}

func (l *loose) fixed() uint32 {
	s := l.bytes(4)
	if l.bad {
		return 0
	}
	return binary.LittleEndian.Uint32([]byte(s))
}

func plainOuter(b, letters string) (*loose, api.Errno) {
	switch {
	case len(b) < 12:
		return nil, api.ErrTorn
	case b[:8] != letters:
		return nil, api.ErrMagic
	case seal(b[:len(b)-4]) != b:
		return nil, api.ErrSum
	}
	return &loose{s: []byte(b[8 : len(b)-4])}, api.OK
}

func plainData(b string) (api.FilePair, api.Errno) {
	l, e := plainOuter(b, "STRADAT1")
	if e != api.OK {
		return api.FilePair{}, e
	}
	p := api.FilePair{Id: int(l.number()), Lo: l.number()}
	p.Hi = p.Lo + l.number()
	begin := p.Lo
	for n := l.number(); n > 0 && !l.bad; n-- {
		begin += l.number()
		p.Data = append(p.Data, api.Datum{Begin: begin, Key: l.bytes(l.number()), Data: l.bytes(l.number())})
	}
	if l.bad || dataBytes(p) != b || !allowedData(p) {
		return api.FilePair{}, api.ErrForm
	}
	return p, api.OK
}

func plainDelta(b string) (api.FilePair, api.Errno) {
	l, e := plainOuter(b, "STRADEL1")
	if e != api.OK {
		return api.FilePair{}, e
	}
	p := api.FilePair{Id: int(l.number()), Gen: int(l.number())}
	begin := uint64(0)
	for n := l.number(); n > 0 && !l.bad; n-- {
		begin += l.number()
		p.Gone = append(p.Gone, api.Erasure{Begin: begin, End: begin + l.number(), Key: l.bytes(l.number())})
	}
	if l.bad || deltaBytes(p) != b || !allowedDelta(p) {
		return api.FilePair{}, api.ErrForm
	}
	return p, api.OK
}

func plainManifest(b string) (api.Manifest, api.Errno) {
	l, e := plainOuter(b, "STRAMAN1")
	if e != api.OK {
		return api.Manifest{}, e
	}
	m := api.Manifest{Gen: int(l.number()), Next: int(l.number()), Upto: l.number()}
	hi := uint64(0)
	for n := l.number(); n > 0 && !l.bad; n-- {
		p := api.PairName{Id: int(l.number()), Lo: hi + l.number()}
		p.Hi = p.Lo + l.number()
		p.Rows, p.Gen, p.Gone = int(l.number()), int(l.number()), int(l.number())
		p.DataSum, p.DeltaSum = l.fixed(), l.fixed()
		m.Pairs = append(m.Pairs, p)
		hi = p.Hi
	}
	if l.bad || manifestBytes(m) != b || !allowedManifest(m) {
		return api.Manifest{}, api.ErrForm
	}
	return m, api.OK
}

func within(n, least, most int) bool { return least <= n && n <= most }

func later(begin uint64, key string, end uint64, other string) bool {
	return begin < end || begin == end && key < other
}

func allowedData(p api.FilePair) bool {
	good := within(p.Id, 1, 99999999) && p.Lo < p.Hi && p.Hi <= 1<<62-1 && len(p.Data) <= 65536
	for i, d := range p.Data {
		good = good && p.Lo < d.Begin && d.Begin <= p.Hi && within(len(d.Key), 1, 160) && len(d.Data) <= 512
		good = good && (i == 0 || later(p.Data[i-1].Begin, p.Data[i-1].Key, d.Begin, d.Key))
	}
	return good
}

func allowedDelta(p api.FilePair) bool {
	good := within(p.Id, 1, 99999999) && within(p.Gen, 1, 99999999) && within(len(p.Gone), 1, 65536)
	for i, g := range p.Gone {
		good = good && g.Begin >= 1 && g.End > g.Begin && g.End <= 1<<62-1 && within(len(g.Key), 1, 160)
		good = good && (i == 0 || later(p.Gone[i-1].Begin, p.Gone[i-1].Key, g.Begin, g.Key))
	}
	return good
}

func allowedManifest(m api.Manifest) bool {
	good := within(m.Gen, 1, 99999999) && within(m.Next, 1, 100000000) && m.Upto <= 1<<62-1 && len(m.Pairs) <= 256
	for i, p := range m.Pairs {
		for _, q := range m.Pairs[:i] {
			good = good && p.Id != q.Id
		}
		good = good && (i == 0 || m.Pairs[i-1].Hi <= p.Lo)
		good = good && within(p.Id, 1, m.Next-1) && p.Lo < p.Hi && p.Hi <= m.Upto && within(p.Rows, 0, 65536)
		good = good && within(p.Gen, 0, m.Gen) && within(p.Gone, 0, p.Rows)
		if p.Gen == 0 {
			good = good && p.Gone == 0 && p.DeltaSum == 0
		} else {
			good = good && p.Gone > 0
		}
	}
	return good
}

// Names.

var (
	dataShape     = regexp.MustCompile(`^data-(\d{8})$`)
	deltaShape    = regexp.MustCompile(`^delta-(\d{8})-(\d{8})$`)
	manifestShape = regexp.MustCompile(`^(tmp-)?manifest-(\d{8})$`)
)

// numbersIn tells the Id and the generation in a name, and whether it is a file's of this layer, and a manifest's.
func numbersIn(name string) (id, gen int, ours, manifest bool) {
	atoi := func(s string) int { n, _ := strconv.Atoi(s); return n }
	if m := dataShape.FindStringSubmatch(name); m != nil {
		id = atoi(m[1])
		return id, 0, id > 0, false
	}
	if m := deltaShape.FindStringSubmatch(name); m != nil {
		if id, gen = atoi(m[1]), atoi(m[2]); id > 0 && gen > 0 {
			return id, gen, true, false
		}
		return 0, 0, false, false
	}
	if m := manifestShape.FindStringSubmatch(name); m != nil {
		gen = atoi(m[2])
		return 0, gen, gen > 0, gen > 0 && m[1] == ""
	}
	return 0, 0, false, false
}

// Loading.

func plainFile(fs []api.File, name string) (string, bool) {
	for _, f := range fs {
		if f.Name == name {
			return f.Bytes, true
		}
	}
	return "", false
}

// plainWhole reads a manifest's pairs.
func plainWhole(fs []api.File, gen int) ([]api.FilePair, api.Manifest, bool) {
	b, _ := plainFile(fs, manifestName(gen))
	m, e := plainManifest(b)
	good := e == api.OK && m.Gen == gen
	var pairs []api.FilePair
	for _, n := range m.Pairs {
		b, there := plainFile(fs, dataName(n.Id))
		p, e := plainData(b)
		good = good && there && e == api.OK && endSum(b) == n.DataSum && p.Id == n.Id && p.Lo == n.Lo && p.Hi == n.Hi && len(p.Data) == n.Rows
		if n.Gen != 0 {
			b, there := plainFile(fs, deltaName(n.Id, n.Gen))
			x, e := plainDelta(b)
			good = good && there && e == api.OK && endSum(b) == n.DeltaSum && x.Id == n.Id && x.Gen == n.Gen && len(x.Gone) == n.Gone
			for _, g := range x.Gone {
				named := slices.ContainsFunc(p.Data, func(d api.Datum) bool { return d.Begin == g.Begin && d.Key == g.Key })
				good = good && named && g.End <= m.Upto
			}
			p.Gen, p.Gone = x.Gen, x.Gone
		}
		pairs = append(pairs, p)
	}
	rows := plainRows(pairs)
	for i := range rows {
		good = good && (i == 0 || rows[i-1].Key != rows[i].Key)
	}
	return pairs, m, good
}

// plainLoad tells the pairs and the manifest.
func plainLoad(fs []api.File) ([]api.FilePair, api.Manifest, api.Errno) {
	var gens []int
	for _, f := range fs {
		if _, gen, _, manifest := numbersIn(f.Name); manifest {
			gens = append(gens, gen)
		}
	}
	sort.Sort(sort.Reverse(sort.IntSlice(gens)))
	for _, gen := range gens {
		if pairs, m, good := plainWhole(fs, gen); good {
			return pairs, m, api.OK
		}
	}
	if len(gens) > 0 {
		return nil, api.Manifest{}, api.ErrMissing
	}
	return nil, api.Manifest{}, api.OK
}

func stands(p api.FilePair, d api.Datum) bool {
	return !slices.ContainsFunc(p.Gone, func(g api.Erasure) bool { return g.Begin == d.Begin && g.Key == d.Key })
}

// plainRows tells what stands, by key.
func plainRows(pairs []api.FilePair) []api.Row {
	var rows []api.Row
	for _, p := range pairs {
		for _, d := range p.Data {
			if stands(p, d) {
				rows = append(rows, row(d.Key, d.Data, d.Begin))
			}
		}
	}
	sort.SliceStable(rows, func(i, j int) bool { return rows[i].Key < rows[j].Key })
	return rows
}

// plain is an image.
type plain struct {
	fill    int
	upto    uint64
	gen     int
	next    int
	pairs   []api.FilePair
	files   []api.File // all that were ever answered, or lay there
	pending []api.Commit
	played  []api.Commit // all that were worked off
}

func newPlain(fill int) *plain { return &plain{fill: fill, next: 1} }

// resume is what Resume would give of files.
func (p *plain) resume(fill int, fs []api.File) (*plain, api.Errno) {
	if fill < 1 || fill > 4096 {
		return nil, api.ErrFill
	}
	pairs, m, e := plainLoad(fs)
	if e != api.OK {
		return nil, e
	}
	q := &plain{fill: fill, upto: m.Upto, next: max(1, m.Next), pairs: pairs, files: slices.Clone(fs)}
	for _, f := range fs {
		if id, gen, ours, _ := numbersIn(f.Name); ours {
			q.gen = max(q.gen, gen)
			q.next = max(q.next, id+1)
		}
	}
	for _, c := range p.played {
		if c.Stamp <= q.upto {
			q.played = append(q.played, c)
		}
	}
	return q, api.OK
}

// mayBe is chapter 11's rule.
func mayBe(c api.Commit) bool {
	good := c.Stamp >= 1 && c.Stamp <= 1<<62-1 && within(len(c.Writes), 1, 128)
	for i, w := range c.Writes {
		good = good && within(len(w.Key), 1, 160) && (i == 0 || c.Writes[i-1].Key < w.Key)
		good = good && (w.Kind == 1 && len(w.Data) <= 512 || w.Kind == 2 && w.Data == "")
	}
	return good
}

func (p *plain) absorb(cs []api.Commit) (int, api.Errno) {
	for i, c := range cs {
		if !mayBe(c) {
			return i, api.ErrRecord
		}
		if c.Stamp <= p.upto || slices.ContainsFunc(p.pending, func(x api.Commit) bool { return x.Stamp == c.Stamp }) {
			return i, api.ErrStamp
		}
		p.pending = append(p.pending, api.Commit{Stamp: c.Stamp, Writes: slices.Clone(c.Writes)})
	}
	return len(cs), api.OK
}

// copied shares nothing of what a Close changes.
func (p *plain) copied() *plain {
	c := *p
	c.pairs, c.pending, c.played, c.files = slices.Clone(p.pairs), slices.Clone(p.pending), slices.Clone(p.played), slices.Clone(p.files)
	for i := range c.pairs {
		c.pairs[i].Data, c.pairs[i].Gone = slices.Clone(p.pairs[i].Data), slices.Clone(p.pairs[i].Gone)
	}
	return &c
}

func (p *plain) close(upto uint64) ([]api.File, api.Errno) {
	if upto < p.upto || upto > 1<<62-1 {
		return nil, api.ErrStamp
	}
	c := p.copied()
	c.gen++
	c.work(upto)
	if c.gen > 99999999 || c.next > 100000000 {
		return nil, api.ErrNumbers
	}
	if len(c.pairs) > 256 {
		return nil, api.ErrPairs
	}
	c.upto = upto
	fs := c.tell()
	*p = *c
	return fs, api.OK
}

func (p *plain) work(upto uint64) {
	sort.Slice(p.pending, func(i, j int) bool { return p.pending[i].Stamp < p.pending[j].Stamp })
	open := false
	for len(p.pending) > 0 && p.pending[0].Stamp <= upto {
		c := p.pending[0]
		p.pending = p.pending[1:]
		p.played = append(p.played, c)
		for _, w := range c.Writes {
			p.erase(w.Key, c.Stamp)
			if w.Kind == api.WriteDelete {
				continue
			}
			if !open {
				lo := uint64(0)
				if len(p.pairs) > 0 {
					lo = p.pairs[len(p.pairs)-1].Hi
				}
				p.pairs = append(p.pairs, api.FilePair{Id: p.next, Lo: lo})
				p.next++
				open = true
			}
			last := &p.pairs[len(p.pairs)-1]
			last.Data = append(last.Data, datum(c.Stamp, w.Key, w.Data))
			last.Hi = c.Stamp
		}
		open = open && len(p.pairs[len(p.pairs)-1].Data) < p.fill
	}
}

func (p *plain) erase(key string, end uint64) {
	for i := range p.pairs {
		x := &p.pairs[i]
		for _, d := range x.Data {
			if d.Key == key && stands(*x, d) {
				x.Gone = append(x.Gone, erasure(d.Begin, end, key))
				sort.Slice(x.Gone, func(i, j int) bool { return later(x.Gone[i].Begin, x.Gone[i].Key, x.Gone[j].Begin, x.Gone[j].Key) })
			}
		}
	}
}

// tell gives the new files: those whose contents no file has that was answered before.
func (p *plain) tell() []api.File {
	var fs []api.File
	for i := range p.pairs {
		x := &p.pairs[i]
		if _, there := plainFile(p.files, dataName(x.Id)); !there {
			fs = append(fs, api.File{Name: dataName(x.Id), Bytes: dataBytes(*x)})
		}
		old, there := plainFile(p.files, deltaName(x.Id, x.Gen))
		if last, _ := plainDelta(old); len(x.Gone) > 0 && (!there || len(last.Gone) < len(x.Gone)) {
			x.Gen = p.gen
			fs = append(fs, api.File{Name: deltaName(x.Id, x.Gen), Bytes: deltaBytes(*x)})
		}
	}
	list := listed(p.gen, p.next, p.upto, p.pairs...)
	fs = append(fs, list[len(list)-1])
	p.files = append(p.files, fs...)
	return fs
}

func (p *plain) merge(at int) api.Errno {
	if at < 0 || at > len(p.pairs)-2 {
		return api.ErrMerge
	}
	a, b := p.pairs[at], p.pairs[at+1]
	one := api.FilePair{Id: p.next, Lo: a.Lo, Hi: b.Hi}
	for _, x := range []api.FilePair{a, b} {
		for _, d := range x.Data {
			if stands(x, d) {
				one.Data = append(one.Data, d)
			}
		}
	}
	if len(one.Data) > 65536 {
		return api.ErrMerge
	}
	if p.next > 99999999 {
		return api.ErrNumbers
	}
	p.next++
	p.pairs = slices.Concat(p.pairs[:at], []api.FilePair{one}, p.pairs[at+2:])
	return api.OK
}

// state tells what an image shows, as the tests' state does of the program's.
func (p *plain) state() string {
	return fmt.Sprintf("%d %d %+v %+v", p.upto, len(p.pending), p.pairs, plainRows(p.pairs))
}

// replayed plays commits, by their Stamps, on an empty table.
func replayed(list []api.Commit, upto uint64) []api.Row {
	list = slices.Clone(list)
	sort.Slice(list, func(i, j int) bool { return list[i].Stamp < list[j].Stamp })
	table := map[string]api.Row{}
	for _, c := range list {
		for _, w := range c.Writes {
			if c.Stamp > upto {
				continue
			}
			if w.Kind == api.WritePut {
				table[w.Key] = row(w.Key, w.Data, c.Stamp)
			} else {
				delete(table, w.Key)
			}
		}
	}
	var rows []api.Row
	for _, r := range table {
		rows = append(rows, r)
	}
	sort.Slice(rows, func(i, j int) bool { return rows[i].Key < rows[j].Key })
	return rows
}
