package adya_test

import (
	"fmt"
	"slices"
	"sort"

	"strata/adya"
	"strata/api"
)

// The chapter once more, written down plainly: each sentence as a loop over all there is.

// plainWrites tells the writes of a transaction on a key, ahead of its operation o.
func plainWrites(h api.History, t, o int, key string) []api.HOp {
	var list []api.HOp
	for i, op := range h.Txns[t].Ops {
		if i < o && op.Kind == 2 && op.Ver.Key == key {
			list = append(list, op)
		}
	}
	return list
}

func plainAll(h api.History, t int, key string) []api.HOp {
	return plainWrites(h, t, len(h.Txns[t].Ops), key)
}

func plainCommitted(h api.History, t int) bool { return h.Txns[t].Fate == 1 }

// plainInstalls tells which version a transaction installs.
func plainInstalls(h api.History, t int, key string) (v api.Ver, dead, there bool) {
	list := plainAll(h, t, key)
	if len(list) == 0 || !plainCommitted(h, t) {
		return api.Ver{}, false, false
	}
	return api.Ver{Key: key, From: t, Nth: len(list)}, list[len(list)-1].Dead, true
}

// plainKeys tells all keys that are written anywhere.
func plainKeys(h api.History) []string {
	var list []string
	for _, x := range h.Txns {
		for _, op := range x.Ops {
			if op.Kind == 2 && !slices.Contains(list, op.Ver.Key) {
				list = append(list, op.Ver.Key)
			}
		}
	}
	sort.Strings(list)
	return list
}

func plainIn(scan api.HOp, key string) bool {
	return key >= scan.Ver.Key && (scan.Hi == "" || key < scan.Hi)
}

// plainOrder tells who installs a version of a key: the least End first, of equal ones the least number.
func plainOrder(h api.History, key string) []int {
	var list []int
	for t := range h.Txns {
		if _, _, there := plainInstalls(h, t, key); there {
			i := len(list)
			for i > 0 && h.Txns[list[i-1]].End > h.Txns[t].End {
				i--
			}
			list = slices.Insert(list, i, t)
		}
	}
	return list
}

func plainCheck(h api.History) (api.Errno, int, int) {
	if len(h.Txns) > 256 {
		return 141, 0, 0
	}
	for t, x := range h.Txns {
		if len(x.Ops) > 256 {
			return 141, t, 0
		}
		if plainWrongTxn(h, t) {
			return 140, t, 0
		}
		for o := range x.Ops {
			if e := plainWrongOp(h, t, o); e != 0 {
				return e, t, o
			}
		}
	}
	return 0, 0, 0
}

func plainWrongTxn(h api.History, t int) bool {
	x := h.Txns[t]
	if x.Fate != 0 && x.Fate != 1 && x.Fate != 2 || x.Begin > 1<<62-1 || x.End > 1<<62-1 || x.Iso < 1 || x.Iso > 4 {
		return true
	}
	if x.Fate == 1 && x.End < x.Begin {
		return true
	}
	for i := 0; i < t; i++ {
		if x.Fate == 1 && h.Txns[i].Fate == 1 && h.Txns[i].End == x.End {
			return true
		}
	}
	for _, n := range []int{x.BeginIn, x.BeginOut, x.EndIn, x.EndOut} {
		if n < 0 || n > 1<<30 {
			return true
		}
	}
	return x.Fate == 1 && (x.BeginIn > x.BeginOut || x.BeginOut > x.EndIn || x.EndOut != 0 && x.EndIn > x.EndOut)
}

func plainWrongOp(h api.History, t, o int) api.Errno {
	x := h.Txns[t]
	op := x.Ops[o]
	if op.Kind != 1 && op.Kind != 2 && op.Kind != 3 {
		return 140
	}
	if op.Kind == 2 {
		return 0
	}
	if op.At > 1<<62-1 || x.Fate == 1 && (op.At < x.Begin || op.At > x.End) {
		return 140
	}
	if op.Kind == 1 {
		if !plainCanBeTold(h, t, o, op.Ver) || plainAll(h, op.Ver.From, op.Ver.Key)[op.Ver.Nth-1].Value != op.Value {
			return 140
		}
		return 0
	}
	if len(op.Seen) > 256 {
		return 141
	}
	told := map[string]bool{}
	for i, v := range op.Seen {
		told[v.Key] = true
		if !plainIn(op, v.Key) || !plainCanBeTold(h, t, o, v) {
			return 140
		}
		if i > 0 && (v.Key < op.Seen[i-1].Key || v.Key == op.Seen[i-1].Key && x.Fate == 1) {
			return 140
		}
	}
	if x.Fate == 1 {
		for _, key := range plainKeys(h) {
			if plainIn(op, key) && !told[key] && plainShouldBeTold(h, t, o, key) {
				return 140
			}
		}
	}
	return 0
}

func plainCanBeTold(h api.History, t, o int, v api.Ver) bool {
	if v.From < 0 || v.From >= len(h.Txns) || v.Nth < 1 {
		return false
	}
	if list := plainAll(h, v.From, v.Key); v.Nth > len(list) || list[v.Nth-1].Dead {
		return false
	}
	if !plainCommitted(h, t) {
		return true
	}
	if n := len(plainWrites(h, t, o, v.Key)); n > 0 {
		return v.From == t && v.Nth == n
	}
	return v.From != t
}

func plainShouldBeTold(h api.History, t, o int, key string) bool {
	if list := plainWrites(h, t, o, key); len(list) > 0 {
		return !list[len(list)-1].Dead
	}
	should := false
	for _, i := range plainOrder(h, key) {
		if _, dead, _ := plainInstalls(h, i, key); i != t && h.Txns[i].End <= h.Txns[t].Ops[o].At {
			should = !dead
		}
	}
	return should
}

// plainTold tells the versions that an operation was told.
func plainTold(op api.HOp) []api.Ver {
	switch op.Kind {
	case 1:
		return []api.Ver{op.Ver}
	case 3:
		return op.Seen
	}
	return nil
}

// plainChosen tells the place of the chosen version in the key's order, 0 for the unborn one; -1: there is none.
func plainChosen(h api.History, t, o int, key string) int {
	op := h.Txns[t].Ops[o]
	if len(plainWrites(h, t, o, key)) > 0 {
		return -1
	}
	for _, v := range op.Seen {
		if v.Key != key {
			continue
		}
		for p, i := range plainOrder(h, key) {
			if x, _, _ := plainInstalls(h, i, key); x == v {
				return p + 1
			}
		}
		return -1
	}
	place := 0
	for p, i := range plainOrder(h, key) {
		if i != t && h.Txns[i].End <= op.At {
			place = p + 1
		}
	}
	return place
}

// plainChanges tells whether the version at a place of the key's order changes it.
func plainChanges(h api.History, key string, place int) bool {
	order := plainOrder(h, key)
	was := true
	if place > 1 {
		_, was, _ = plainInstalls(h, order[place-2], key)
	}
	_, is, _ := plainInstalls(h, order[place-1], key)
	return is != was
}

// plainHas tells whether there is an edge, as P14.3 says it.
func plainHas(h api.History, i, j int, kind api.EdgeKind, key string) bool {
	order := plainOrder(h, key)
	place := func(t int) int { return slices.Index(order, t) + 1 }
	switch kind {
	case 1:
		return place(i) > 0 && place(j) == place(i)+1
	case 2:
		for _, op := range h.Txns[j].Ops {
			for _, v := range plainTold(op) {
				if v.Key == key && v.From == i {
					return true
				}
			}
		}
	case 4:
		for _, op := range h.Txns[i].Ops {
			for _, v := range plainTold(op) {
				if v.Key != key || v.From == i {
					continue
				}
				if x, _, there := plainInstalls(h, v.From, key); there && x == v && place(j) == place(v.From)+1 {
					return true
				}
			}
		}
	case 3:
		for o, op := range h.Txns[j].Ops {
			if op.Kind != 3 || !plainIn(op, key) {
				continue
			}
			last := 0
			for p := 1; p <= plainChosen(h, j, o, key); p++ {
				if plainChanges(h, key, p) {
					last = p
				}
			}
			if last > 0 && order[last-1] == i {
				return true
			}
		}
	case 5:
		for o, op := range h.Txns[i].Ops {
			chosen := plainChosen(h, i, o, key)
			if op.Kind != 3 || !plainIn(op, key) || chosen < 0 {
				continue
			}
			p := chosen + 1
			for p <= len(order) && !plainChanges(h, key, p) {
				p++
			}
			if p <= len(order) && order[p-1] == j {
				return true
			}
		}
	}
	return false
}

func plainEdges(h api.History) []api.Edge {
	var list []api.Edge
	keys := plainKeys(h)
	for i := range h.Txns {
		for j := range h.Txns {
			if i == j || !plainCommitted(h, i) || !plainCommitted(h, j) {
				continue
			}
			for kind := api.EdgeKind(1); kind <= 5; kind++ {
				for _, key := range keys {
					if plainHas(h, i, j, kind, key) {
						list = append(list, edge(i, j, kind, key))
					}
				}
			}
		}
	}
	return list
}

// reach tells who can be come to from whom.
type reach [][]bool

func plainReach(n int, edges []api.Edge, kinds ...api.EdgeKind) reach {
	m := make(reach, n)
	for i := range m {
		m[i] = make([]bool, n)
	}
	for _, e := range edges {
		if slices.Contains(kinds, e.Kind) {
			m[e.From][e.To] = true
		}
	}
	for k := range m {
		for i := range m {
			for j := range m {
				m[i][j] = m[i][j] || m[i][k] && m[k][j]
			}
		}
	}
	return m
}

func (m reach) round() bool {
	for i := range m {
		if m[i][i] {
			return true
		}
	}
	return false
}

func plainStart(h api.History, a, b int) bool {
	return a != b && plainCommitted(h, a) && plainCommitted(h, b) && h.Txns[a].End <= h.Txns[b].Begin
}

// plainPhenomena tells which a history with these edges shows.
func plainPhenomena(h api.History, list []api.Edge) []api.Phen {
	var out []api.Phen
	for p := api.G0; p <= api.G2; p++ {
		if plainShows(h, list, p) {
			out = append(out, p)
		}
	}
	return out
}

func plainShows(h api.History, list []api.Edge, p api.Phen) bool {
	n := len(h.Txns)
	switch p {
	case api.G0:
		return plainReach(n, list, 1).round()
	case api.G1a, api.G1b:
		for t, x := range h.Txns {
			for _, op := range x.Ops {
				for _, v := range plainTold(op) {
					if plainCommitted(h, t) && plainIsBad(h, t, v, p) {
						return true
					}
				}
			}
		}
		return false
	case api.G1c:
		return plainReach(n, list, 1, 2, 3).round()
	case api.GSIa:
		return slices.ContainsFunc(list, func(e api.Edge) bool { return e.Kind <= 3 && h.Txns[e.From].End > h.Txns[e.To].Begin })
	}
	all := slices.Clone(list)
	kinds := []api.EdgeKind{1, 2, 3, 4, 5}
	turn := []api.EdgeKind{4, 5}
	if p == api.GSIb {
		kinds = []api.EdgeKind{0, 1, 2, 3}
		for a := range h.Txns {
			for b := range h.Txns {
				if plainStart(h, a, b) {
					all = append(all, edge(a, b, 0, ""))
				}
			}
		}
	}
	if p == api.G2Item {
		turn = turn[:1]
	}
	m := plainReach(n, all, kinds...)
	return slices.ContainsFunc(list, func(e api.Edge) bool { return slices.Contains(turn, e.Kind) && m[e.To][e.From] })
}

// plainIsBad tells whether a version that t was told shows G1a or G1b.
func plainIsBad(h api.History, t int, v api.Ver, p api.Phen) bool {
	if p == api.G1a {
		return !plainCommitted(h, v.From)
	}
	return v.From != t && v.Nth != len(plainAll(h, v.From, v.Key))
}

// plainMeets tells whether a history that shows these has a grade.
func plainMeets(shown []api.Phen, g api.Grade) bool {
	no := func(list ...api.Phen) bool {
		for _, p := range list {
			if slices.Contains(shown, p) {
				return false
			}
		}
		return true
	}
	pl2 := no(api.G1a, api.G1b, api.G1c)
	switch g {
	case api.PL1:
		return no(api.G0)
	case api.PL2:
		return pl2
	case api.PLSI:
		return pl2 && no(api.GSIa, api.GSIb)
	case api.PL299:
		return pl2 && no(api.G2Item)
	}
	return pl2 && no(api.G2)
}

// faultOfWitness tells what is wrong with the edges by which a history shows a phenomenon (P14.5).
func faultOfWitness(h api.History, p api.Phen) string {
	list, e := adya.Witness(h, p)
	if e != api.OK || len(list) == 0 {
		return fmt.Sprint("it is not told: ", list, e)
	}
	all := plainEdges(h)
	if p == api.G1a || p == api.G1b {
		x := list[0]
		if len(list) != 1 || x.Kind != api.EWR || !plainCommitted(h, x.To) {
			return fmt.Sprint("no such edge: ", list)
		}
		for _, op := range h.Txns[x.To].Ops {
			for _, v := range plainTold(op) {
				if v.Key == x.Key && v.From == x.From && plainIsBad(h, x.To, v, p) {
					return ""
				}
			}
		}
		return fmt.Sprint("it was not told that: ", list)
	}
	for _, x := range list {
		isStart := p == api.GSIb && x.Kind == 0 && x.Key == "" && plainStart(h, x.From, x.To)
		if !isStart && !slices.Contains(all, x) {
			return fmt.Sprint(x, " is none: ", list)
		}
	}
	if p == api.GSIa {
		if x := list[0]; len(list) != 1 || x.Kind > 3 || h.Txns[x.From].End <= h.Txns[x.To].Begin {
			return fmt.Sprint("no such edge: ", list)
		}
		return ""
	}
	return faultOfRound(list, p)
}

// faultOfRound tells what is wrong with edges that should go round.
func faultOfRound(list []api.Edge, p api.Phen) string {
	met := map[int]int{}
	count := map[api.EdgeKind]int{}
	for i, x := range list {
		if x.To != list[(i+1)%len(list)].From || met[x.To] > 0 {
			return fmt.Sprint("they do not go round, or come to one twice: ", list)
		}
		met[x.To]++
		count[x.Kind]++
	}
	turns := count[api.ERW] + count[api.ERWP]
	good := false
	switch p {
	case api.G0:
		good = count[api.EWW] == len(list)
	case api.G1c:
		good = turns == 0 && count[0] == 0
	case api.GSIb:
		good = turns == 1
	case api.G2Item:
		good = count[api.ERW] > 0
	case api.G2:
		good = turns > 0
	}
	if !good {
		return fmt.Sprint("not of the kinds: ", list)
	}
	return ""
}

// plainSerial tells the least order, or that there is none.
func plainSerial(h api.History, list []api.Edge) ([]int, bool) {
	var order []int
	for {
		next, left := -1, 0
		for t := len(h.Txns) - 1; t >= 0; t-- {
			if !plainCommitted(h, t) || slices.Contains(order, t) {
				continue
			}
			left++
			if !slices.ContainsFunc(list, func(e api.Edge) bool { return e.To == t && !slices.Contains(order, e.From) }) {
				next = t
			}
		}
		if next < 0 {
			return order, left == 0
		}
		order = append(order, next)
	}
}

// state is a plain map.
type state map[string]api.HOp // a write, its version filled in

func (m state) put(op api.HOp, t int, h api.History, o int) {
	op.Ver.From = t
	op.Ver.Nth = len(plainWrites(h, t, o+1, op.Ver.Key))
	m[op.Ver.Key] = op
}

// plays tells whether a transaction's operations are told what is in the map; its writes go in.
func (m state) plays(h api.History, t int) bool {
	good := true
	for o, op := range h.Txns[t].Ops {
		switch op.Kind {
		case 2:
			m.put(op, t, h, o)
		case 1:
			there, ok := m[op.Ver.Key]
			good = good && ok && !there.Dead && there.Ver == op.Ver
		case 3:
			var list []api.Ver
			for key, there := range m {
				if plainIn(op, key) && !there.Dead {
					list = append(list, there.Ver)
				}
			}
			sort.Slice(list, func(i, j int) bool { return list[i].Key < list[j].Key })
			good = good && slices.Equal(list, op.Seen)
		}
	}
	return good
}

func plainReplay(h api.History, order []int) (bool, api.Errno) {
	for t := range h.Txns {
		n := 0
		for _, x := range order {
			if x == t {
				n++
			}
		}
		if plainCommitted(h, t) != (n == 1) || n > 1 {
			return false, 144
		}
	}
	if slices.ContainsFunc(order, func(x int) bool { return x < 0 || x >= len(h.Txns) }) {
		return false, 144
	}
	m, good := state{}, true
	for _, t := range order {
		good = m.plays(h, t) && good
	}
	return good, 0
}

// plainMoments tells the moments by their timestamps, without places.
func plainMoments(h api.History) []api.Point {
	var list []api.Point
	for t := range h.Txns {
		if plainCommitted(h, t) {
			list = append(list, point(t, false, 0), point(t, true, 0))
		}
	}
	rank := func(p api.Point) (uint64, int, int) {
		x := h.Txns[p.Txn]
		switch {
		case p.Commit:
			return x.End, 2, p.Txn
		case x.Begin == x.End:
			return x.Begin, 1, p.Txn
		}
		return x.Begin, 3, p.Txn
	}
	sort.Slice(list, func(i, j int) bool {
		a, b, c := rank(list[i])
		x, y, z := rank(list[j])
		return a < x || a == x && (b < y || b == y && c < z)
	})
	return list
}

// plainPlaces gives moments their places, if they can have some.
func plainPlaces(h api.History, moments []api.Point) ([]api.Point, bool) {
	list := slices.Clone(moments)
	for i, p := range list {
		for _, q := range list[:i+1] {
			low := h.Txns[q.Txn].BeginIn
			if q.Commit {
				low = h.Txns[q.Txn].EndIn
			}
			list[i].At = max(list[i].At, low)
		}
		x := h.Txns[p.Txn]
		if !p.Commit && list[i].At > x.BeginOut || p.Commit && x.EndOut != 0 && list[i].At > x.EndOut {
			return nil, false
		}
	}
	return list, true
}

// plainRun runs the machine along moments.
func plainRun(h api.History, moments []api.Point) ([]api.Point, api.Errno) {
	list, fits := plainPlaces(h, moments)
	if !fits {
		return nil, 145
	}
	for i, p := range moments {
		t := p.Txn
		if !p.Commit || h.Txns[t].Iso == 1 {
			continue
		}
		m, begun := state{}, false
		for _, q := range moments[:i] {
			switch {
			case q.Txn == t:
				begun = true
			case q.Commit && begun:
				for _, key := range plainKeys(h) {
					if len(plainAll(h, t, key)) > 0 && len(plainAll(h, q.Txn, key)) > 0 {
						return nil, 147
					}
				}
			case q.Commit:
				m.plays(h, q.Txn)
			}
		}
		if !m.plays(h, t) {
			return nil, 146
		}
	}
	return list, 0
}

// plainSearch tells whether the machine takes any order.
func plainSearch(h api.History) api.Errno {
	moments := plainMoments(h)
	if len(moments) > 2*4 {
		return 141
	}
	if plainTry(h, nil, moments) {
		return 0
	}
	return 146
}

func plainTry(h api.History, order, left []api.Point) bool {
	if len(left) == 0 {
		_, e := plainRun(h, order)
		return e == 0
	}
	for i, p := range left {
		if p.Commit && slices.ContainsFunc(left, func(q api.Point) bool { return q.Txn == p.Txn && !q.Commit }) {
			continue
		}
		if plainTry(h, append(slices.Clone(order), p), slices.Delete(slices.Clone(left), i, i+1)) {
			return true
		}
	}
	return false
}

// faultOfSearch tells what is wrong with what Search tells.
func faultOfSearch(h api.History) string {
	list, e := adya.Search(h)
	if right := plainSearch(h); e != right {
		return fmt.Sprintf("%d, want %d", e, right)
	}
	if e != api.OK {
		if len(list) > 0 {
			return fmt.Sprint("beside an error: ", list)
		}
		return ""
	}
	bare := slices.Clone(list)
	for i := range bare {
		bare[i].At = 0
		if bare[i].Commit && !slices.Contains(bare[:i], point(bare[i].Txn, false, 0)) {
			return fmt.Sprint("a commit ahead of its begin: ", list)
		}
	}
	sorted := slices.Clone(bare)
	sort.Slice(sorted, func(i, j int) bool {
		return sorted[i].Txn < sorted[j].Txn || sorted[i].Txn == sorted[j].Txn && !sorted[i].Commit && sorted[j].Commit
	})
	var all []api.Point
	for t := range h.Txns {
		if plainCommitted(h, t) {
			all = append(all, point(t, false, 0), point(t, true, 0))
		}
	}
	if !slices.Equal(sorted, all) {
		return fmt.Sprint("not each moment once: ", list)
	}
	if right, e := plainRun(h, bare); e != api.OK || !slices.Equal(right, list) {
		return fmt.Sprint(list, ": the machine says ", right, e)
	}
	return ""
}
