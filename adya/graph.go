package adya

import (
	"cmp"
	"iter"
	"maps"
	"slices"

	"strata/api"
)

// graph holds of each transaction the edges to those behind it, by To, Kind and Key.
type graph map[int][]api.Edge

// drawn draws a graph of edges that come in any order.
func drawn(edges iter.Seq[api.Edge]) graph {
	g := graph{}
	for e := range edges {
		g[e.From] = append(g[e.From], e)
	}
	for _, list := range g {
		slices.SortFunc(list, func(a, b api.Edge) int {
			return cmp.Or(cmp.Compare(a.To, b.To), cmp.Compare(a.Kind, b.Kind), cmp.Compare(a.Key, b.Key))
		})
	}
	return g
}

// all goes along the edges, by From, To, Kind and Key.
func (g graph) all() iter.Seq[api.Edge] {
	return func(yield func(api.Edge) bool) {
		for _, from := range slices.Sorted(maps.Keys(g)) {
			for _, e := range g[from] {
				if !yield(e) {
					return
				}
			}
		}
	}
}

// thin gives a graph of these kinds alone, with one edge at most from a transaction to another: ways along it are the same.
func (g graph) thin(kinds ...api.EdgeKind) graph {
	t := graph{}
	for e := range g.all() {
		list := t[e.From]
		if slices.Contains(kinds, e.Kind) && (len(list) == 0 || list[len(list)-1].To != e.To) {
			t[e.From] = append(list, e)
		}
	}
	return t
}

// walk goes on from edges along the graph, the nearest first: it tells the edge by which each transaction is come to.
func (g graph) walk(first []api.Edge) iter.Seq[api.Edge] {
	return func(yield func(api.Edge) bool) {
		met := map[int]int{}
		for far, edges := 1, first; len(edges) > 0; far++ {
			var next []api.Edge
			for _, e := range edges {
				if met[e.To] != 0 {
					continue
				}
				if met[e.To] = far; !yield(e) {
					return
				}
				next = append(next, g[e.To]...)
			}
			edges = next
		}
	}
}

// round looks for a way that begins with an edge of first, goes on along rest, and comes back to where it began: its edges, or none.
func round(first, rest graph) []api.Edge {
	for _, from := range slices.Sorted(maps.Keys(first)) {
		came := map[int]api.Edge{}
		for e := range rest.walk(first[from]) {
			came[e.To] = e
			if e.To == from {
				return trail(came, from)
			}
		}
	}
	return nil
}

// trail tells the edges by which a walk has come back to where it began.
func trail(came map[int]api.Edge, home int) []api.Edge {
	list := []api.Edge{came[home]}
	for e := came[home]; e.From != home; {
		e = came[e.From]
		list = append(list, e)
	}
	slices.Reverse(list)
	return list
}

// least orders transactions along the edges, at each place the least number that can stand there; whole is false if a cycle keeps some out (P14.7).
func (g graph) least(txns []int) (order []int, whole bool) {
	in := map[int]int{} // edges that come from those not placed yet
	for e := range g.all() {
		in[e.To]++
	}
	for left := slices.Clone(txns); len(left) > 0; {
		at := slices.IndexFunc(left, func(t int) bool { return in[t] == 0 })
		if at < 0 {
			return nil, false
		}
		for _, e := range g[left[at]] {
			in[e.To]--
		}
		order = append(order, left[at])
		left = slices.Delete(left, at, at+1)
	}
	return order, true
}
