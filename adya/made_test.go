package adya_test

import (
	"math/rand"
	"slices"

	"strata/api"
)

// maker makes histories up.
type maker struct {
	*rand.Rand
	keys []string
	met  map[string]int
}

func newMaker(seed int64) *maker {
	return &maker{rand.New(rand.NewSource(seed)), []string{"a", "b", "b\x00", "c"}, map[string]int{}}
}

func (m *maker) key() string { return m.keys[m.Intn(len(m.keys))] }

func (m *maker) one(in int) bool { return m.Intn(in) == 0 }

// How what reads and scans are told is made up.
const (
	atBegin   = iota // what stood at the begin
	atItsEnd         // what stood just ahead of the end
	inBetween        // what stood at some time between them
	anything         // whatever may be told
	ways
)

// history makes one up that Check lets pass.
func (m *maker) history(most int) api.History {
	m.keys = m.keys[:2+m.Intn(3)]
	h := api.History{Txns: make([]api.HTxn, max(m.Intn(most+1), m.Intn(most+1)))}
	m.times(h.Txns)
	m.places(h.Txns)
	levels := [][]int{{si}, {full}, {si, rr, full}, {rc, si, rr, full}}[m.Intn(4)]
	open, few := m.Intn(3), 3+m.Intn(4)
	for t := range h.Txns {
		x := &h.Txns[t]
		x.Iso = levels[m.Intn(len(levels))]
		x.Fate = api.FCommitted
		if m.Intn(8) < open {
			x.Fate = []api.Fate{api.FOpen, api.FAborted}[m.Intn(2)]
		}
		for range m.Intn(few) {
			x.Ops = append(x.Ops, m.bare())
		}
	}
	if len(h.Txns) > 0 && m.one(2) {
		m.load(&h.Txns[0])
	}
	way, free := m.Intn(ways), []int{0, 0, 10, 3}[m.Intn(4)]
	for t, x := range h.Txns {
		for o := range x.Ops {
			how := way
			if free > 0 && m.one(free) {
				how = anything
			}
			m.fill(h, t, o, how)
		}
	}
	return h
}

// load lets a transaction write all keys, ahead of all others.
func (m *maker) load(x *api.HTxn) {
	*x = api.HTxn{Iso: x.Iso, Fate: api.FCommitted, EndOut: x.EndOut}
	for _, key := range m.keys {
		x.Ops = append(x.Ops, w(key))
	}
}

// bare makes an operation up, but for what it is told.
func (m *maker) bare() api.HOp {
	key := m.key()
	switch m.Intn(10) {
	case 0, 1, 2, 3:
		return api.HOp{Kind: api.OWrite, Ver: api.Ver{Key: key, From: m.Intn(9) - 4, Nth: m.Intn(9) - 4}, Value: string(rune('0' + m.Intn(3))), At: m.Uint64()}
	case 4:
		return api.HOp{Kind: api.OWrite, Ver: api.Ver{Key: key}, Dead: true, Value: "dead", Hi: "a"}
	case 5, 6, 7:
		return api.HOp{Kind: api.ORead, Ver: api.Ver{Key: key}, Dead: m.one(2), Hi: "a", Seen: []api.Ver{ver("b", 77, -3)}}
	}
	high := []string{"", "", m.key(), m.key() + "\x00"}[m.Intn(4)]
	return api.HOp{Kind: api.OScan, Ver: api.Ver{Key: []string{"", key}[m.Intn(2)], From: -7}, Hi: high, Value: "?", Dead: m.one(2)}
}

// times gives transactions their begins and ends: one behind the other, or over one another.
func (m *maker) times(txns []api.HTxn) {
	ends := m.Perm(3 * (len(txns) + 1))[:len(txns)]
	for t := range ends {
		ends[t]++
	}
	if m.one(4) {
		slices.Sort(ends)
		begin := 0
		for t := range txns {
			txns[t].Begin = uint64(begin + m.Intn(ends[t]-begin+1))
			txns[t].End = uint64(ends[t])
			begin = ends[t]
		}
		m.Shuffle(len(txns), func(i, j int) { txns[i], txns[j] = txns[j], txns[i] })
		return
	}
	early := m.one(3)
	for t := range txns {
		txns[t].End = uint64(ends[t])
		txns[t].Begin = uint64(m.Intn(ends[t] + 1))
		if early {
			txns[t].Begin = min(txns[t].Begin, uint64(m.Intn(3)))
		}
		if m.one(6) && len(txns) > 1 {
			txns[t].Begin = min(txns[t].End, txns[m.Intn(len(txns))].End)
		}
	}
}

// places gives transactions the numbers of their events: as their timestamps have it, wide, or any.
func (m *maker) places(txns []api.HTxn) {
	way := m.Intn(3)
	for t := range txns {
		x := &txns[t]
		switch way {
		case 0:
			b, e := int(4*x.Begin), int(4*x.End)
			x.BeginIn, x.BeginOut, x.EndIn, x.EndOut = max(0, b-m.Intn(3)), b+m.Intn(2), e-m.Intn(2), e+m.Intn(4)
			x.EndIn = max(x.BeginOut, x.EndIn)
			x.EndOut = max(x.EndIn, x.EndOut)
		case 1:
			x.BeginOut, x.EndIn, x.EndOut = 30, 30, 60
		case 2:
			list := []int{m.Intn(24), m.Intn(24), m.Intn(24), m.Intn(24)}
			slices.Sort(list)
			x.BeginIn, x.BeginOut, x.EndIn, x.EndOut = list[0], list[1], list[2], list[3]
		}
		if m.one(6) {
			x.EndOut = 0
		}
	}
}

// fill lets a read or scan be told something that may be told.
func (m *maker) fill(h api.History, t, o, how int) {
	x := h.Txns[t]
	op := &x.Ops[o]
	if op.Kind == api.OWrite {
		return
	}
	op.At = x.Begin
	switch how {
	case atItsEnd:
		op.At = x.End
	case inBetween, anything:
		op.At = x.Begin + uint64(m.Int63n(int64(x.End-x.Begin)+1))
	}
	if op.Kind == api.ORead {
		v, there := m.version(h, t, o, op.Ver.Key, how)
		if !there { // a key that is absent
			*op = api.HOp{Kind: api.OScan, Ver: op.Ver, Hi: op.Ver.Key + "\x00", At: op.At}
			m.fill(h, t, o, how)
			return
		}
		op.Ver = v
		op.Value = plainAll(h, v.From, v.Key)[v.Nth-1].Value
		return
	}
	op.Seen = nil
	for _, key := range m.keys {
		if !plainIn(*op, key) {
			continue
		}
		v, there := m.version(h, t, o, key, how)
		if how == anything && m.one(2) && !(plainCommitted(h, t) && plainShouldBeTold(h, t, o, key)) {
			there = false
		}
		if there {
			op.Seen = append(op.Seen, v)
		}
		if there && !plainCommitted(h, t) && m.one(4) {
			op.Seen = append(op.Seen, v)
		}
	}
}

// version makes up which version of a key an operation is told.
func (m *maker) version(h api.History, t, o int, key string, how int) (v api.Ver, there bool) {
	if own := plainWrites(h, t, o, key); len(own) > 0 && plainCommitted(h, t) {
		return ver(key, t, len(own)), !own[len(own)-1].Dead
	}
	if how != anything {
		for _, i := range plainOrder(h, key) {
			if x, dead, _ := plainInstalls(h, i, key); i != t && h.Txns[i].End <= h.Txns[t].Ops[o].At {
				v, there = x, !dead
			}
		}
		return v, there
	}
	var list []api.Ver
	for i := range h.Txns {
		for n := range plainAll(h, i, key) {
			if v := ver(key, i, n+1); plainCanBeTold(h, t, o, v) {
				list = append(list, v)
			}
		}
	}
	if len(list) == 0 {
		return api.Ver{}, false
	}
	return list[m.Intn(len(list))], true
}

// spoiled changes something of a history, so that it may be none.
func (m *maker) spoiled(h api.History) api.History {
	if len(h.Txns) == 0 {
		return h
	}
	x := &h.Txns[m.Intn(len(h.Txns))]
	number := func() int {
		if m.one(2) {
			return m.Intn(9) - 2
		}
		return strange()[m.Intn(len(strange()))]
	}
	time := func() uint64 {
		if m.one(3) {
			return strangeTimes()[m.Intn(len(strangeTimes()))]
		}
		return uint64(m.Intn(12))
	}
	if m.one(2) || len(x.Ops) == 0 {
		switch m.Intn(9) {
		case 0:
			x.Iso = number()
		case 1:
			x.Fate = api.Fate(number())
		case 2:
			x.Begin = time()
		case 3:
			x.End = time()
		case 4:
			x.BeginIn = number()
		case 5:
			x.BeginOut = number()
		case 6:
			x.EndIn = number()
		case 7:
			x.EndOut = number()
		case 8:
			x.End = h.Txns[m.Intn(len(h.Txns))].End
		}
		return h
	}
	m.spoilOp(h, &x.Ops[m.Intn(len(x.Ops))], number, time)
	return h
}

func (m *maker) spoilOp(h api.History, op *api.HOp, number func() int, time func() uint64) {
	any := func() api.Ver { return ver(m.key(), m.Intn(len(h.Txns)+2)-1, m.Intn(4)) }
	switch m.Intn(12) {
	case 0:
		op.Kind = api.OpKind(number())
	case 1:
		op.Ver.Key = m.key()
	case 2:
		op.Ver.From = number()
	case 3:
		op.Ver.Nth = number()
	case 4:
		op.Dead = !op.Dead
	case 5:
		op.Value = string(rune('0' + m.Intn(3)))
	case 6:
		op.Hi = m.key()
	case 7:
		op.At = time()
	case 8:
		op.Seen = append(op.Seen, any())
	case 9:
		op.Seen = append([]api.Ver{any()}, op.Seen...)
	case 10:
		if n := len(op.Seen); n > 0 {
			op.Seen = slices.Delete(op.Seen, m.Intn(n), n)
		}
	case 11:
		if n := len(op.Seen); n > 0 {
			op.Seen[m.Intn(n)] = any()
		}
	}
}
