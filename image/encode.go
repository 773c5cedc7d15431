package image

import (
	"strata/api"
	"strata/bits"
)

// The letters with which files begin, and the bytes of the sum with which they end.
const (
	dataLetters     = "STRADAT1"
	deltaLetters    = "STRADEL1"
	manifestLetters = "STRAMAN1"
	sumSize         = 4
)

// EncodeData gives the bytes of a pair's data file (P12.1).
func EncodeData(p api.FilePair) (string, api.Errno) {
	if !mayBeData(p) {
		return "", api.ErrArg
	}
	w := begin(dataLetters)
	w.numbers(uint64(p.Id), p.Lo, p.Hi-p.Lo, uint64(len(p.Data)))
	last := p.Lo
	for _, d := range p.Data {
		w.numbers(d.Begin - last)
		w.blobs(d.Key, d.Data)
		last = d.Begin
	}
	return w.end(), api.OK
}

// EncodeDelta gives the bytes of a pair's delta file (P12.1).
func EncodeDelta(p api.FilePair) (string, api.Errno) {
	if !mayBeDelta(p) {
		return "", api.ErrArg
	}
	w := begin(deltaLetters)
	w.numbers(uint64(p.Id), uint64(p.Gen), uint64(len(p.Gone)))
	last := uint64(0)
	for _, g := range p.Gone {
		w.numbers(g.Begin-last, g.End-g.Begin)
		w.blobs(g.Key)
		last = g.Begin
	}
	return w.end(), api.OK
}

// EncodeManifest gives the bytes of a manifest (P12.1).
func EncodeManifest(m api.Manifest) (string, api.Errno) {
	if !mayBeManifest(m) {
		return "", api.ErrArg
	}
	w := begin(manifestLetters)
	w.numbers(uint64(m.Gen), uint64(m.Next), m.Upto, uint64(len(m.Pairs)))
	last := uint64(0)
	for _, p := range m.Pairs {
		w.numbers(uint64(p.Id), p.Lo-last, p.Hi-p.Lo, uint64(p.Rows), uint64(p.Gen), uint64(p.Gone))
		w.text(bits.Fixed32(p.DataSum) + bits.Fixed32(p.DeltaSum))
		last = p.Hi
	}
	return w.end(), api.OK
}

// writer gathers the bytes of a file.
type writer struct{ bytes []byte }

func begin(letters string) *writer { return &writer{[]byte(letters)} }

func (w *writer) text(s string) { w.bytes = append(w.bytes, s...) }

func (w *writer) numbers(list ...uint64) {
	for _, n := range list {
		w.text(bits.Uvarint(n))
	}
}

// blobs are of keys and data, far shorter than a Blob may be.
func (w *writer) blobs(list ...string) {
	for _, s := range list {
		b, _ := bits.Blob(s)
		w.text(b)
	}
}

func (w *writer) end() string {
	s := string(w.bytes)
	return s + bits.Fixed32(bits.Checksum(s))
}
