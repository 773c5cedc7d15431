package adya_test

import (
	"fmt"
	"math"
	"math/rand"
	"reflect"
	"runtime"
	"slices"
	"sync"
	"testing"
	"time"

	"strata/adya"
	"strata/api"
)

// wild makes up anything that may be handed in.
func (m *maker) wild() api.History {
	n := func() int { return strange()[m.Intn(len(strange()))] }
	small := func() int {
		if m.one(6) {
			return n()
		}
		return m.Intn(5) - 1
	}
	time := func() uint64 {
		if m.one(2) {
			return uint64(m.Intn(6))
		}
		return strangeTimes()[m.Intn(len(strangeTimes()))]
	}
	text := func() string { return texts[m.Intn(len(texts))] }
	anyVer := func() api.Ver { return ver(text(), small(), small()) }
	h := api.History{Txns: make([]api.HTxn, []int{0, 1, 2, 3, 4, 5, 256, 257, 600}[m.Intn(9)])}
	for t := range h.Txns {
		x := api.HTxn{Iso: small(), Fate: api.Fate(small()), Begin: time(), End: time(), BeginIn: small(), BeginOut: small(), EndIn: small(), EndOut: small()}
		if m.one(2) { // so that the operations are looked at
			x = placed(txn(uint64(t), uint64(t+5)), 0, 0, 0, 0)
		}
		for range m.Intn(4) {
			op := api.HOp{Kind: api.OpKind(small()), Ver: anyVer(), Dead: m.one(2), Value: text(), Hi: text(), At: x.Begin}
			for range m.Intn(3) {
				op.Seen = append(op.Seen, anyVer())
			}
			if m.one(4) {
				op.At = time()
			}
			x.Ops = append(x.Ops, op)
		}
		if m.one(40) {
			x.Ops = make([]api.HOp, 256+m.Intn(2000))
		}
		h.Txns[t] = x
	}
	return h
}

// P0.1: no call panics, at any argument, and each ends.
func TestNoPanics(t *testing.T) {
	inBatches(t, 2400, func(m *maker) string {
		h := m.wild()
		if m.one(2) {
			h = m.history(5)
		}
		for range m.Intn(4) {
			h = m.spoiled(h)
		}
		var order []int
		for range m.Intn(6) {
			order = append(order, strange()[m.Intn(len(strange()))])
		}
		answers(h, order)
		for _, p := range strange() {
			adya.Witness(h, api.Phen(p))
			adya.Meets(h, api.Grade(p))
		}
		for _, key := range texts {
			adya.Order(h, key)
		}
		return ""
	})
	adya.Replay(history(), make([]int, 1000000)...)
	adya.Replay(history(first()), math.MinInt, math.MaxInt)
}

// copied tells a history anew, all through.
func copied(h api.History) api.History {
	out := api.History{Txns: slices.Clone(h.Txns)}
	for t := range out.Txns {
		x := &out.Txns[t]
		x.Ops = slices.Clone(x.Ops)
		for o := range x.Ops {
			x.Ops[o].Seen = slices.Clone(x.Ops[o].Seen)
		}
	}
	return out
}

// roomy gives lists spare room, in which nothing may be written, and tells what is in it.
func roomy(h api.History) (api.History, func() bool) {
	list := append(make([]api.HTxn, 0, len(h.Txns)+3), h.Txns...)
	spare := func() bool {
		for _, x := range list[len(list):cap(list)] {
			if !reflect.DeepEqual(x, api.HTxn{}) {
				return false
			}
		}
		for _, x := range list {
			for _, op := range x.Ops[len(x.Ops):cap(x.Ops)] {
				if !reflect.DeepEqual(op, api.HOp{}) {
					return false
				}
			}
			for _, op := range x.Ops {
				for _, v := range op.Seen[len(op.Seen):cap(op.Seen)] {
					if v != (api.Ver{}) {
						return false
					}
				}
			}
		}
		return true
	}
	for t := range list {
		x := &list[t]
		x.Ops = append(make([]api.HOp, 0, len(x.Ops)+3), x.Ops...)
		for o := range x.Ops {
			x.Ops[o].Seen = append(make([]api.Ver, 0, len(x.Ops[o].Seen)+3), x.Ops[o].Seen...)
		}
	}
	return api.History{Txns: list}, spare
}

// P0.1: what is handed in is not changed, nor the room behind it.
func TestWhatIsHandedInIsNotChanged(t *testing.T) {
	inBatches(t, 4000, func(m *maker) string {
		h := m.history(5)
		if m.one(3) {
			h = m.spoiled(h)
		}
		full, clean := roomy(h)
		before := copied(full)
		order := append(make([]int, 0, 20), byEnd(h)...)
		m.Shuffle(len(order), func(i, j int) { order[i], order[j] = order[j], order[i] })
		same := slices.Clone(order)
		answers(full, order)
		for p := api.G0; p <= api.G2; p++ {
			adya.Witness(full, p)
		}
		if got := fmt.Sprintf("%+v", full); got != fmt.Sprintf("%+v", before) || !clean() || !slices.Equal(order, same) {
			return fmt.Sprintf("P0.1: %+v is changed: %s", before, got)
		}
		return ""
	})
}

// spoil writes over a list, and behind it.
func spoil[T any](list []T) {
	var zero T
	_ = append(list, zero, zero, zero)
	full := list[:cap(list)]
	for i := range full {
		full[i] = zero
	}
}

// spoilHistory writes over all lists of one, the inner ones first.
func spoilHistory(h api.History) {
	for _, x := range h.Txns {
		for _, op := range x.Ops {
			spoil(op.Seen)
		}
		spoil(x.Ops)
	}
	spoil(h.Txns)
}

// P0.1: each list that is answered is new memory: what is written into it is seen nowhere else.
func TestAnswersAreNewMemory(t *testing.T) {
	for seed := int64(1); seed <= 400; seed++ {
		m := newMaker(seed)
		h := m.history(5)
		order := byEnd(h)
		right := fmt.Sprintf("%+v", answers(h, order))
		before := fmt.Sprintf("%+v", h)
		first, second := answers(h, order), answers(h, order)
		for _, a := range first {
			switch x := a.(type) {
			case []int:
				spoil(x)
			case []api.Edge:
				spoil(x)
			case []api.Phen:
				spoil(x)
			case []api.Point:
				spoil(x)
			case api.History:
				spoilHistory(x)
			}
		}
		for p := api.G0; p <= api.G2; p++ {
			one, _ := adya.Witness(h, p)
			two, _ := adya.Witness(h, p)
			text := fmt.Sprint(two)
			spoil(one)
			want(t, "P0.1: two witnesses", fmt.Sprint(two), text)
		}
		want(t, "P0.1: what was handed in", fmt.Sprintf("%+v", h), before)
		want(t, "P0.1: another answer", fmt.Sprintf("%+v", second), right)
		want(t, "P0.1: a later answer", fmt.Sprintf("%+v", answers(h, order)), right)
	}
}

// The lists within what AtEnd answers share nothing with one another, nor with what was handed in, of operations that are no scans too.
func TestListsOfAtEnd(t *testing.T) {
	seen := []api.Ver{ver("x", 0, 1), ver("y", 0, 1)}
	ops := []api.HOp{s("", "", seen...), s("", "", seen...), {Kind: api.ORead, Ver: ver("x", 0, 1), Value: "x", Seen: seen, At: 2}, {Kind: api.OWrite, Ver: ver("z", 0, 0), Seen: seen}}
	x, y := as(full, txn(2, 3)), as(full, txn(2, 4))
	ops[0].At, ops[1].At = 2, 2
	x.Ops, y.Ops = ops, ops[:2] // one list within two transactions
	h := history(first(), x, y)
	checks(t, "shared lists", h, api.OK, 0, 0)
	before := fmt.Sprintf("%+v", h)
	got, e := adya.AtEnd(h)
	want(t, "P14.11", e, api.OK)
	for t := range got.Txns {
		for o := range got.Txns[t].Ops {
			list := got.Txns[t].Ops[o].Seen
			for i := range list {
				list[i] = ver(fmt.Sprint(t, o, i), t, o)
			}
			_ = append(list, ver("behind", t, o))
		}
	}
	for i, x := range got.Txns {
		for o, op := range x.Ops {
			for k, v := range op.Seen {
				want(t, "P0.1: within AtEnd", v, ver(fmt.Sprint(i, o, k), i, o))
			}
		}
	}
	ats := func() (list []uint64) {
		for _, x := range got.Txns {
			for _, op := range x.Ops {
				list = append(list, op.At)
			}
		}
		return list
	}
	want(t, "P14.11", ats(), []uint64{0, 0, 3, 3, 2, 0, 4, 4})
	got.Txns[1].Ops[0].At, got.Txns[2].Ops[1].At = 77, 78
	_ = append(got.Txns[2].Ops, w("behind"))
	_ = append(got.Txns[1].Ops[:1], w("over"))
	want(t, "P0.1: within AtEnd", ats(), []uint64{0, 0, 77, 0, 2, 0, 4, 78})
	want(t, "P0.1: what was handed in", fmt.Sprintf("%+v", h), before)
}

// P0.1: what is handed in is not kept: a history that is changed later is answered as it is then.
func TestNothingIsKept(t *testing.T) {
	h := lostUpdate()
	got, _ := adya.Edges(h)
	later, _ := adya.AtEnd(h)
	text := fmt.Sprintf("%+v %+v", got, later)
	h.Txns[2] = fated(api.FAborted, h.Txns[2])
	h.Txns[1].Ops[0] = w("other")
	want(t, "P0.1: not kept", fmt.Sprintf("%+v %+v", got, later), text)
	edges(t, "P0.1: as it is now", h, edge(0, 1, api.EWW, "x"))
	edges(t, "P0.1: another one", lostUpdate(), got...)
}

// P0.1: the same arguments get the same answers, and calls have nothing in common; several goroutines may call at the same time.
func TestTheSameAnswers(t *testing.T) {
	var group sync.WaitGroup
	var lock sync.Mutex
	told := map[int64]string{}
	before := runtime.NumGoroutine()
	for range 4 {
		group.Go(func() {
			r := rand.New(rand.NewSource(7))
			for _, seed := range r.Perm(300) {
				h := newMaker(int64(seed)).history(6)
				text := fmt.Sprintf("%+v", answers(h, byEnd(h)))
				for p := api.G0; p <= api.G2; p++ {
					list, e := adya.Witness(h, p)
					text += fmt.Sprint(list, e)
				}
				lock.Lock()
				if old := told[int64(seed)]; old != "" && old != text {
					t.Errorf("P0.1: seed %d: %s and %s", seed, old, text)
				}
				told[int64(seed)] = text
				lock.Unlock()
			}
		})
	}
	group.Wait()
	for wait := time.Microsecond; runtime.NumGoroutine() > before; wait *= 2 { // one that has ended may still be counted for a moment
		if wait > time.Second {
			t.Fatalf("P0.1: %d goroutines, %d before", runtime.NumGoroutine(), before)
		}
		time.Sleep(wait)
	}
}
