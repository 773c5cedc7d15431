package image

import (
	"cmp"
	"maps"
	"slices"

	"strata/api"
)

// stock is a list of pairs, in the order of their ranges, and where in them stands what stands, by its key.
type stock struct {
	pairs    []*pair
	standing map[string]place
}

// pair of files, with what a manifest says of them, and what of it is not in files yet.
type pair struct {
	api.FilePair
	dataSum  uint32
	deltaSum uint32
	fresh    bool // its data file was not told yet
	worn     bool // its last delta file does not hold all its erasures
}

// place of a datum: a pair, and a number in its list.
type place struct {
	pair *pair
	at   int
}

func (p place) datum() api.Datum { return p.pair.Data[p.at] }

func newStock() stock { return stock{standing: map[string]place{}} }

// add puts a pair that was read from files behind the others. It tells whether that may be: each erasure names a datum, and no key stands twice.
func (s *stock) add(p *pair) bool {
	gone := p.Gone // both lists rise alike, so the next erasure is the next one to be met
	for i, d := range p.Data {
		if len(gone) > 0 && gone[0].Begin == d.Begin && gone[0].Key == d.Key {
			gone = gone[1:]
			continue
		}
		if _, twice := s.standing[d.Key]; twice {
			return false
		}
		s.standing[d.Key] = place{p, i}
	}
	s.pairs = append(s.pairs, p)
	return len(gone) == 0
}

// erase takes away the datum that stands with a key, if there is one.
func (s *stock) erase(key string, end uint64) {
	old, stands := s.standing[key]
	if !stands {
		return
	}
	old.pair.Gone = append(old.pair.Gone, api.Erasure{Begin: old.datum().Begin, End: end, Key: key})
	old.pair.worn = true
	delete(s.standing, key)
}

// lay puts a datum, whose key does not stand, behind a pair's.
func (s *stock) lay(p *pair, d api.Datum) {
	s.standing[d.Key] = place{p, len(p.Data)}
	p.Data = append(p.Data, d)
	p.Hi = d.Begin
}

// left tells those of a pair's data that stand, in order.
func (s *stock) left(p *pair) []api.Datum {
	var list []api.Datum
	for i, d := range p.Data {
		if s.standing[d.Key] == (place{p, i}) {
			list = append(list, d)
		}
	}
	return list
}

// last tells the timestamp at which the last range ends.
func (s *stock) last() uint64 {
	if len(s.pairs) == 0 {
		return 0
	}
	return s.pairs[len(s.pairs)-1].Hi
}

func (s *stock) rows() []api.Row {
	var rows []api.Row
	for _, key := range slices.Sorted(maps.Keys(s.standing)) {
		d := s.standing[key].datum()
		rows = append(rows, api.Row{Key: key, Data: d.Data, Stamp: d.Begin})
	}
	return rows
}

// sortGone brings erasures, which come in the order of their ends, into that of what they erase.
func (p *pair) sortGone() {
	slices.SortFunc(p.Gone, func(a, b api.Erasure) int {
		return order(a.Begin, a.Key, b.Begin, b.Key)
	})
}

// order tells which of two data, or erasures, comes first: by Begin, then Key.
func order(begin uint64, key string, otherBegin uint64, otherKey string) int {
	return cmp.Or(cmp.Compare(begin, otherBegin), cmp.Compare(key, otherKey))
}
