package image

import (
	"maps"
	"slices"

	"strata/api"
)

// Close makes a checkpoint of all commits up to a timestamp: the files that are new, the manifest last (P12.6).
func (im *Image) Close(upto uint64) ([]api.File, api.Errno) {
	if im.missing() {
		return nil, api.ErrNil
	}
	if upto < im.upto || upto > api.MaxTime {
		return nil, api.ErrStamp
	}
	due := im.due(upto)
	opened := im.opened(due)
	switch {
	case im.gen >= api.MaxFileNo || opened > im.numbersLeft():
		return nil, api.ErrNumbers
	case len(im.pairs)+opened > api.MaxPairs:
		return nil, api.ErrPairs
	}
	im.workOff(due)
	im.upto = upto
	im.gen++
	return im.files(), api.OK
}

// due tells the stamps of the pending commits up to a timestamp, rising.
func (im *Image) due(upto uint64) []uint64 {
	var due []uint64
	for _, stamp := range slices.Sorted(maps.Keys(im.pending)) {
		if stamp <= upto {
			due = append(due, stamp)
		}
	}
	return due
}

// opened tells how many pairs those commits would open: that hangs on the number of their puts alone, so nothing need be changed to know it.
func (im *Image) opened(due []uint64) int {
	count, held := 0, 0
	for _, stamp := range due {
		puts := putsOf(im.pending[stamp])
		if held == 0 && puts > 0 {
			count++
		}
		held += puts
		if held >= im.fill {
			held = 0
		}
	}
	return count
}

func putsOf(writes []api.Write) int {
	n := 0
	for _, w := range writes {
		if w.Kind == api.WritePut {
			n++
		}
	}
	return n
}

func (im *Image) numbersLeft() int { return api.MaxFileNo - im.next + 1 }

func (im *Image) workOff(due []uint64) {
	var open *pair
	for _, stamp := range due {
		for _, w := range im.pending[stamp] {
			im.erase(w.Key, stamp)
			if w.Kind == api.WriteDelete {
				continue
			}
			if open == nil {
				open = im.newPair(im.last())
				im.pairs = append(im.pairs, open)
			}
			im.lay(open, api.Datum{Begin: stamp, Key: w.Key, Data: w.Data})
		}
		delete(im.pending, stamp)
		// not ahead of the commit's last write: a commit is never split between two pairs
		if open != nil && len(open.Data) >= im.fill {
			open = nil
		}
	}
}

// newPair takes the next number.
func (im *Image) newPair(lo uint64) *pair {
	im.next++
	return &pair{FilePair: api.FilePair{Id: im.next - 1, Lo: lo}, fresh: true}
}

// files tells those that are new under this generation.
func (im *Image) files() []api.File {
	var list []api.File
	m := api.Manifest{Gen: im.gen, Next: im.next, Upto: im.upto}
	for _, p := range im.pairs {
		list = append(list, p.newFiles(im.gen)...)
		m.Pairs = append(m.Pairs, p.name())
	}
	bytes, _ := EncodeManifest(m)
	return append(list, api.File{Name: manifestName(m.Gen), Bytes: bytes})
}

// newFiles tells a pair's files that were not told yet.
func (p *pair) newFiles(gen int) []api.File {
	var list []api.File
	if p.fresh {
		bytes, _ := EncodeData(p.FilePair)
		list = append(list, api.File{Name: dataName(p.Id), Bytes: bytes})
		p.dataSum, p.fresh = sumAtEnd(bytes), false
	}
	if p.worn {
		p.sortGone()
		p.Gen = gen
		bytes, _ := EncodeDelta(p.FilePair)
		list = append(list, api.File{Name: deltaName(p.Id, gen), Bytes: bytes})
		p.deltaSum, p.worn = sumAtEnd(bytes), false
	}
	return list
}

// name tells what a manifest says of a pair.
func (p *pair) name() api.PairName {
	return api.PairName{Id: p.Id, Lo: p.Lo, Hi: p.Hi, Rows: len(p.Data), Gen: p.Gen, Gone: len(p.Gone), DataSum: p.dataSum, DeltaSum: p.deltaSum}
}
