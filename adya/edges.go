package adya

import (
	"iter"
	"maps"

	"strata/api"
)

// graphOf gives the edges of a history, each once (P14.3).
func graphOf(b *book) graph {
	edges := map[api.Edge]int{} // how often each was given
	give := func(from, to int, kind api.EdgeKind, key string) {
		if from != to {
			edges[api.Edge{From: from, To: to, Kind: kind, Key: key}]++
		}
	}
	for _, l := range b.lines {
		for p := 2; p < len(l.versions); p++ {
			give(l.versions[p-1].ver.From, l.versions[p].ver.From, api.EWW, l.key)
		}
	}
	for s, v := range b.told() {
		s.giveRead(v, give)
	}
	for s, at := range b.looks() {
		s.giveLook(at, give)
	}
	return drawn(maps.Keys(edges))
}

// giver takes an edge that was found; one from a transaction to itself is none.
type giver func(from, to int, kind api.EdgeKind, key string)

// giveRead gives the edges of an operation that was told a version: of its own none.
func (s spot) giveRead(v api.Ver, give giver) {
	if v.From == s.txn {
		return
	}
	if s.isCommitted(v.From) {
		give(v.From, s.txn, api.EWR, v.Key)
	}
	next := s.line(v.Key).versions
	if p := s.placeOf(v); p > 0 && p+1 < len(next) {
		give(s.txn, next[p+1].ver.From, api.ERW, v.Key)
	}
}

// look is a key that a scan was over, by its line's number, and the place of the chosen version.
type look struct{ line, place int }

// giveLook gives the edges of a scan over a key.
func (s spot) giveLook(at look, give giver) {
	l := s.lines[at.line]
	chosen := l.versions[at.place]
	if chosen.turn > 0 {
		give(l.versions[chosen.turn].ver.From, s.txn, api.EWRP, l.key)
	}
	if chosen.next > 0 {
		give(s.txn, l.versions[chosen.next].ver.From, api.ERWP, l.key)
	}
}

// looks goes along the chosen versions of the committed transactions' scans. Where a transaction looks at a key again and nothing is new, that is passed over.
func (b *book) looks() iter.Seq2[spot, look] {
	return func(yield func(spot, look) bool) {
		for _, t := range b.committed() {
			behind := make([]int, len(b.lines)) // of each line: the place behind that of the last look
			for o, op := range b.txns[t].Ops {
				s := spot{b, t, o}
				for at := range s.chosen(op) {
					if behind[at.line] == at.place+1 {
						continue
					}
					if behind[at.line] = at.place + 1; !yield(s, at) {
						return
					}
				}
			}
		}
	}
}

// chosen goes along the chosen versions of a scan. Of what was told and is not installed there is none, nor of what the transaction had written itself.
func (s spot) chosen(op api.HOp) iter.Seq[look] {
	return func(yield func(look) bool) {
		if op.Kind != api.OScan {
			return
		}
		for _, v := range op.Seen {
			p := s.placeOf(v)
			if p > 0 && s.ahead(v.Key) == 0 && !yield(look{s.number[v.Key], p}) {
				return
			}
		}
		for n := range s.untold(op) {
			l := s.lines[n]
			if s.ahead(l.key) == 0 && !yield(look{n, l.upTo(op.At, s.txn)}) {
				return
			}
		}
	}
}
