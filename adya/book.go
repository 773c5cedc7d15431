package adya

import (
	"cmp"
	"iter"
	"maps"
	"slices"

	"strata/api"
)

// book is a history with its writes looked up. It lives as long as one call.
type book struct {
	txns   []api.HTxn
	writes []map[string][]int // of each transaction, by key: where its writes stand among its operations
	lines  []line             // by key, rising
	number map[string]int     // of each key's line
}

// bookOf looks a history's writes up, whether it is one or not.
func bookOf(h api.History) *book {
	b := &book{txns: h.Txns, number: map[string]int{}}
	for _, x := range h.Txns {
		b.writes = append(b.writes, writesOf(x.Ops))
	}
	found := map[string][]installed{}
	for _, t := range b.byEnd() {
		for key := range b.writes[t] {
			v, op := b.last(t, key)
			found[key] = append(found[key], installed{ver: v, end: b.txns[t].End, dead: op.Dead})
		}
	}
	for n, key := range slices.Sorted(maps.Keys(found)) {
		b.lines = append(b.lines, lineOf(key, found[key]))
		b.number[key] = n
	}
	return b
}

func writesOf(ops []api.HOp) map[string][]int {
	writes := map[string][]int{}
	for o, op := range ops {
		if op.Kind == api.OWrite {
			writes[op.Ver.Key] = append(writes[op.Ver.Key], o)
		}
	}
	return writes
}

func (b *book) isCommitted(t int) bool { return b.txns[t].Fate == api.FCommitted }

// committed tells the committed transactions' numbers, rising.
func (b *book) committed() []int {
	var list []int
	for t := range b.txns {
		if b.isCommitted(t) {
			list = append(list, t)
		}
	}
	return list
}

// byEnd tells the committed transactions by their End; of equal ones, which stand in no history, by their numbers.
func (b *book) byEnd() []int {
	list := b.committed()
	slices.SortStableFunc(list, func(s, t int) int { return cmp.Compare(b.txns[s].End, b.txns[t].End) })
	return list
}

// line tells what is installed of a key; nothing of one that nobody has written.
func (b *book) line(key string) line {
	if n, there := b.number[key]; there {
		return b.lines[n]
	}
	return line{}
}

// order tells the transactions that install a version of a key, in the versions' order.
func (b *book) order(key string) []int {
	var list []int
	for p, x := range b.line(key).versions {
		if p > 0 {
			list = append(list, x.ver.From)
		}
	}
	return list
}

// placeOf tells where a version stands in its key's line; 0: it is not installed. (No two ends are the same in a history.)
func (b *book) placeOf(v api.Ver) int {
	l := b.line(v.Key)
	if p := l.upTo(b.txns[v.From].End, nobody); p > 0 && l.versions[p].ver == v {
		return p
	}
	return 0
}

// write tells the write that made a version, if there is one.
func (b *book) write(v api.Ver) (op api.HOp, there bool) {
	if v.From < 0 || v.From >= len(b.txns) {
		return api.HOp{}, false
	}
	list := b.writes[v.From][v.Key]
	if v.Nth < 1 || v.Nth > len(list) {
		return api.HOp{}, false
	}
	return b.txns[v.From].Ops[list[v.Nth-1]], true
}

// last tells a transaction's last version of a key that it has written, and its write.
func (b *book) last(t int, key string) (api.Ver, api.HOp) {
	v := api.Ver{Key: key, From: t, Nth: len(b.writes[t][key])}
	op, _ := b.write(v)
	return v, op
}

// rangeOf tells the numbers of the lines in a scan's range: from one, up to another that is not taken in.
func (b *book) rangeOf(scan api.HOp) (from, to int) {
	find := func(key string) int {
		n, _ := slices.BinarySearchFunc(b.lines, key, func(l line, key string) int { return cmp.Compare(l.key, key) })
		return n
	}
	from, to = find(scan.Ver.Key), len(b.lines)
	if scan.Hi != "" {
		to = find(scan.Hi)
	}
	return from, to
}

// untold goes along the lines in a scan's range of whose keys no version was told. (What was told rises.)
func (b *book) untold(scan api.HOp) iter.Seq[int] {
	return func(yield func(int) bool) {
		told := scan.Seen
		from, to := b.rangeOf(scan)
		for n := from; n < to; n++ {
			for len(told) > 0 && told[0].Key < b.lines[n].key {
				told = told[1:]
			}
			if len(told) > 0 && told[0].Key == b.lines[n].key {
				continue
			}
			if !yield(n) {
				return
			}
		}
	}
}

// told goes along the versions that the committed transactions' reads and scans were told: who was told, and which.
func (b *book) told() iter.Seq2[spot, api.Ver] {
	return func(yield func(spot, api.Ver) bool) {
		for _, t := range b.committed() {
			for o, op := range b.txns[t].Ops {
				for _, v := range toldOf(op) {
					if !yield(spot{b, t, o}, v) {
						return
					}
				}
			}
		}
	}
}

// toldOf tells the versions that an operation was told.
func toldOf(op api.HOp) []api.Ver {
	switch op.Kind {
	case api.ORead:
		return []api.Ver{op.Ver}
	case api.OScan:
		return op.Seen
	}
	return nil
}

// isOrder tells whether a list is each committed transaction's number, once.
func (b *book) isOrder(list []int) bool {
	right := b.committed()
	return len(list) == len(right) && slices.Equal(slices.Sorted(slices.Values(list)), right)
}

// atEnd tells the history anew, the scans of Serializable transactions that have committed at their End (P14.11).
func (b *book) atEnd() api.History {
	txns := slices.Clone(b.txns)
	for t := range txns {
		x := &txns[t]
		x.Ops = slices.Clone(x.Ops)
		for o := range x.Ops {
			op := &x.Ops[o]
			op.Seen = slices.Clone(op.Seen)
			if op.Kind == api.OScan && x.Iso == api.Serializable && b.isCommitted(t) {
				op.At = x.End
			}
		}
	}
	return api.History{Txns: txns}
}
