package adya

import (
	"slices"

	"strata/api"
)

// barred are, by the grade, the phenomena that a history of it does not show (P14.6).
var barred = [...][]api.Phen{
	api.PL1:   {api.G0},
	api.PL2:   {api.G1a, api.G1b, api.G1c},
	api.PLSI:  {api.G1a, api.G1b, api.G1c, api.GSIa, api.GSIb},
	api.PL299: {api.G1a, api.G1b, api.G1c, api.G2Item},
	api.PL3:   {api.G1a, api.G1b, api.G1c, api.G2},
}

// judge looks for phenomena in a history and its graph.
type judge struct {
	*book
	graph graph
}

func judgeOf(b *book) *judge { return &judge{b, graphOf(b)} }

// sign looks for a phenomenon: edges that show it, or none.
type sign func(j *judge) []api.Edge

// signs gives them by the phenomena's numbers (P14.4).
func signs() [api.G2 + 1]sign {
	return [...]sign{
		api.G0:     func(j *judge) []api.Edge { return round(j.over(), j.over()) },
		api.G1a:    (*judge).dirty,
		api.G1b:    (*judge).halfway,
		api.G1c:    func(j *judge) []api.Edge { return round(j.onward(), j.onward()) },
		api.GSIa:   (*judge).early,
		api.GSIb:   func(j *judge) []api.Edge { return round(j.against(), j.inTime()) },
		api.G2Item: func(j *judge) []api.Edge { return round(j.graph.thin(api.ERW), j.every()) },
		api.G2:     func(j *judge) []api.Edge { return round(j.against(), j.every()) },
	}
}

// over: what is written over what.
func (j *judge) over() graph { return j.graph.thin(api.EWW) }

// onward: what is handed on from one to the other.
func (j *judge) onward() graph { return j.graph.thin(api.EWW, api.EWR, api.EWRP) }

// against: who was told what another one has changed.
func (j *judge) against() graph { return j.graph.thin(api.ERW, api.ERWP) }

func (j *judge) every() graph {
	return j.graph.thin(api.EWW, api.EWR, api.EWRP, api.ERW, api.ERWP)
}

// inTime: what is handed on, and start edges: from one that has ended to one that has begun then.
func (j *judge) inTime() graph {
	g := j.onward()
	for _, a := range j.committed() {
		for _, b := range j.committed() {
			if a != b && j.txns[a].End <= j.txns[b].Begin {
				g[a] = append(g[a], api.Edge{From: a, To: b})
			}
		}
	}
	return g
}

// dirty looks for one that was told a version of one that has not committed.
func (j *judge) dirty() []api.Edge {
	for s, v := range j.told() {
		if !j.isCommitted(v.From) {
			return []api.Edge{s.toldBy(v)}
		}
	}
	return nil
}

// halfway looks for one that was told a version that another one has written over itself.
func (j *judge) halfway() []api.Edge {
	for s, v := range j.told() {
		if last, _ := j.last(v.From, v.Key); v.From != s.txn && v != last {
			return []api.Edge{s.toldBy(v)}
		}
	}
	return nil
}

// toldBy tells the edge of an operation that was told a version.
func (s spot) toldBy(v api.Ver) api.Edge {
	return api.Edge{From: v.From, To: s.txn, Kind: api.EWR, Key: v.Key}
}

// early looks for one that was handed on what ended behind its begin.
func (j *judge) early() []api.Edge {
	for e := range j.onward().all() {
		if j.txns[e.From].End > j.txns[e.To].Begin {
			return []api.Edge{e}
		}
	}
	return nil
}

// witness tells edges that show a phenomenon.
func (j *judge) witness(p api.Phen) []api.Edge { return signs()[p](j) }

func (j *judge) phenomena() []api.Phen {
	var list []api.Phen
	for p := api.G0; p <= api.G2; p++ {
		if len(j.witness(p)) > 0 {
			list = append(list, p)
		}
	}
	return list
}

func (j *judge) meets(g api.Grade) bool {
	return !slices.ContainsFunc(barred[g], func(p api.Phen) bool { return len(j.witness(p)) > 0 })
}
