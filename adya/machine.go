package adya

import (
	"sort"

	"strata/api"
)

// machine is the abstract one: transactions commit, one behind the other, and what they install stands from then on.
type machine struct {
	*book
	commits []int        // in their order
	stood   [][]standing // by the lines' numbers, in the order of the commits
}

// standing is a version that stands from a commit on, by its place in its key's line.
type standing struct{ commit, place int }

func machineOf(b *book) *machine {
	return &machine{book: b, stood: make([][]standing, len(b.lines))}
}

func (m *machine) commit(t int) {
	for key := range m.writes[t] {
		v, _ := m.last(t, key)
		n := m.number[key]
		m.stood[n] = append(m.stood[n], standing{len(m.commits), m.placeOf(v)})
	}
	m.commits = append(m.commits, t)
}

// takeBack undoes the last commit.
func (m *machine) takeBack() {
	last := len(m.commits) - 1
	for key := range m.writes[m.commits[last]] {
		n := m.number[key]
		m.stood[n] = m.stood[n][:len(m.stood[n])-1]
	}
	m.commits = m.commits[:last]
}

// finds tells the version that an operation finds of a line's key behind the first of the commits, its transaction's own writes laid over.
func (m *machine) finds(s spot, n, commits int) (v api.Ver, there bool) {
	l, list := m.lines[n], m.stood[n]
	if own := s.ahead(l.key); own > 0 {
		v = api.Ver{Key: l.key, From: s.txn, Nth: own}
		op, _ := m.write(v)
		return v, !op.Dead
	}
	behind := sort.Search(len(list), func(i int) bool { return list[i].commit >= commits })
	if behind == 0 {
		return api.Ver{}, false
	}
	x := l.versions[list[behind-1].place]
	return x.ver, !x.dead
}

// reads tells whether a read was told what it finds.
func (m *machine) reads(s spot, v api.Ver, commits int) bool {
	n, is := m.number[v.Key]
	if !is {
		return false
	}
	found, there := m.finds(s, n, commits)
	return there && found == v
}

// scans tells whether a scan was told just what it finds.
func (m *machine) scans(s spot, scan api.HOp, commits int) bool {
	told := scan.Seen
	from, to := m.rangeOf(scan)
	for n := from; n < to; n++ {
		v, there := m.finds(s, n, commits)
		if !there {
			continue
		}
		if len(told) == 0 || told[0] != v {
			return false
		}
		told = told[1:]
	}
	return len(told) == 0
}

// tells tells whether all reads and scans of a transaction were told what they find behind the first of the commits.
func (m *machine) tells(t, commits int) bool {
	for o, op := range m.txns[t].Ops {
		s := spot{m.book, t, o}
		if op.Kind == api.ORead && !m.reads(s, op.Ver, commits) || op.Kind == api.OScan && !m.scans(s, op, commits) {
			return false
		}
	}
	return true
}

// overlaps tells whether one of the commits behind the first ones installs a version of a key of which a transaction is about to install one.
func (m *machine) overlaps(t, commits int) bool {
	for key := range m.writes[t] {
		if list := m.stood[m.number[key]]; len(list) > 0 && list[len(list)-1].commit >= commits {
			return true
		}
	}
	return false
}

// verdict tells whether a transaction that began behind the first of the commits can commit now: ErrOverlap, ErrOther.
func (m *machine) verdict(t, commits int) api.Errno {
	switch {
	case m.txns[t].Iso == api.ReadCommitted:
		return api.OK
	case m.overlaps(t, commits):
		return api.ErrOverlap
	case !m.tells(t, commits):
		return api.ErrOther
	}
	return api.OK
}

// replays tells whether all are told the same if they run one behind the other in that order (P14.8).
func replays(b *book, order []int) bool {
	m := machineOf(b)
	for _, t := range order {
		if !m.tells(t, len(m.commits)) {
			return false
		}
		m.commit(t)
	}
	return true
}
