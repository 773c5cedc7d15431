package image

import (
	"strings"

	"strata/api"
	"strata/bits"
)

// DecodeData reads a data file (P12.2).
func DecodeData(b string) (p api.FilePair, e api.Errno) {
	defer func() {
		if fault := recover(); fault != nil {
			p, e = api.FilePair{}, fault.(api.Errno)
		}
	}()
	return dataOf(b), api.OK
}

// DecodeDelta reads a delta file (P12.2).
func DecodeDelta(b string) (p api.FilePair, e api.Errno) {
	defer func() {
		if fault := recover(); fault != nil {
			p, e = api.FilePair{}, fault.(api.Errno)
		}
	}()
	return deltaOf(b), api.OK
}

// DecodeManifest reads a manifest (P12.2).
func DecodeManifest(b string) (m api.Manifest, e api.Errno) {
	defer func() {
		if fault := recover(); fault != nil {
			m, e = api.Manifest{}, fault.(api.Errno)
		}
	}()
	return manifestOf(b), api.OK
}

// giveUp ends the reading of a file: whoever has begun it catches the error.
func giveUp(wrong bool, e api.Errno) {
	if wrong {
		panic(e)
	}
}

// dataOf reads a data file, or gives up.
func dataOf(b string) api.FilePair {
	r := open(b, dataLetters)
	p := api.FilePair{Id: r.count(api.MaxFileNo), Lo: r.number(api.MaxTime)}
	p.Hi = p.Lo + r.number(api.MaxTime-p.Lo)
	last := p.Lo
	for range r.count(api.MaxPairData) {
		last += r.number(p.Hi - last)
		p.Data = append(p.Data, api.Datum{Begin: last, Key: take(r, bits.ReadBlob), Data: take(r, bits.ReadBlob)})
	}
	giveUp(r.left() || !mayBeData(p), api.ErrForm)
	return p
}

// deltaOf reads a delta file, or gives up.
func deltaOf(b string) api.FilePair {
	r := open(b, deltaLetters)
	p := api.FilePair{Id: r.count(api.MaxFileNo), Gen: r.count(api.MaxFileNo)}
	last := uint64(0)
	for range r.count(api.MaxPairData) {
		last += r.number(api.MaxTime - last)
		p.Gone = append(p.Gone, api.Erasure{Begin: last, End: last + r.number(api.MaxTime-last), Key: take(r, bits.ReadBlob)})
	}
	giveUp(r.left() || !mayBeDelta(p), api.ErrForm)
	return p
}

// manifestOf reads a manifest, or gives up.
func manifestOf(b string) api.Manifest {
	r := open(b, manifestLetters)
	m := api.Manifest{Gen: r.count(api.MaxFileNo), Next: r.count(api.MaxFileNo + 1), Upto: r.number(api.MaxTime)}
	last := uint64(0)
	for range r.count(api.MaxPairs) {
		p := r.pairName(last, m.Upto)
		m.Pairs = append(m.Pairs, p)
		last = p.Hi
	}
	giveUp(r.left() || !mayBeManifest(m), api.ErrForm)
	return m
}

// pairName reads what a manifest says of the pair behind one that ends at last.
func (r *reader) pairName(last, upto uint64) api.PairName {
	p := api.PairName{Id: r.count(api.MaxFileNo), Lo: last + r.number(upto-last)}
	p.Hi = p.Lo + r.number(upto-p.Lo)
	p.Rows = r.count(api.MaxPairData)
	p.Gen = r.count(api.MaxFileNo)
	p.Gone = r.count(api.MaxPairData)
	p.DataSum = take(r, bits.ReadFixed32)
	p.DeltaSum = take(r, bits.ReadFixed32)
	return p
}

// reader goes over the contents of a file from the left.
type reader struct {
	s  string
	at int
}

// open looks at both ends of a file, and stands behind its letters.
func open(b, letters string) *reader {
	giveUp(len(b) < len(letters)+sumSize, api.ErrTorn)
	giveUp(!strings.HasPrefix(b, letters), api.ErrMagic)
	s := b[:len(b)-sumSize]
	giveUp(bits.Checksum(s) != sumAtEnd(b), api.ErrSum)
	return &reader{s, len(letters)}
}

// sumAtEnd tells the sum with which a whole file ends.
func sumAtEnd(b string) uint32 {
	sum, _, _ := bits.ReadFixed32(b, len(b)-sumSize)
	return sum
}

func (r *reader) left() bool { return r.at < len(r.s) }

// take reads what stands next by one of the functions of layer 1.
func take[T any](r *reader, read func(string, int) (T, int, api.Errno)) T {
	v, next, e := read(r.s, r.at)
	giveUp(e != api.OK, api.ErrForm)
	r.at = next
	return v
}

// number reads one of at most so much: above it nothing may stand, and sums of such numbers wrap round nowhere.
func (r *reader) number(most uint64) uint64 {
	n := take(r, bits.ReadUvarint)
	giveUp(n > most, api.ErrForm)
	return n
}

func (r *reader) count(most int) int { return int(r.number(uint64(most))) }
