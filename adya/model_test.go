package adya_test

import (
	"fmt"
	"reflect"
	"slices"
	"sort"
	"sync"
	"testing"

	"strata/adya"
	"strata/api"
)

// inBatches makes up histories by their seeds, on all processors; it tells what they met.
func inBatches(t *testing.T, n int, hold func(m *maker) string) map[string]int {
	const batches = 8
	all := map[string]int{}
	var lock sync.Mutex
	t.Run("batches", func(t *testing.T) {
		for batch := range batches {
			t.Run(fmt.Sprint(batch), func(t *testing.T) {
				t.Parallel()
				met := map[string]int{}
				for i := range n / batches {
					m := newMaker(int64(i*batches + batch))
					if m.met = met; !t.Failed() {
						if fault := hold(m); fault != "" {
							t.Errorf("seed %d: %.3000s", i*batches+batch, fault)
						}
					}
				}
				lock.Lock()
				defer lock.Unlock()
				for what, n := range met {
					all[what] += n
				}
			})
		}
	})
	t.Log(all)
	return all
}

// met looks whether cases came often enough to say something.
func met(t *testing.T, all map[string]int, least int, cases ...string) {
	t.Helper()
	for _, what := range cases {
		if all[what] < least {
			t.Errorf("%s: met %d times, want %d at least", what, all[what], least)
		}
	}
}

// answers are what all calls but Check and Witness answer of a history.
func answers(h api.History, order []int) []any {
	keyed, e0 := adya.Order(h, "a")
	list, e1 := adya.Edges(h)
	shown, e2 := adya.Phenomena(h)
	good, e3 := adya.Meets(h, api.PL2)
	least, e4 := adya.Serial(h)
	same, e5 := adya.Replay(h, order...)
	points, e6 := adya.Embed(h)
	found, e7 := adya.Search(h)
	later, e8 := adya.AtEnd(h)
	return []any{keyed, e0, list, e1, shown, e2, good, e3, least, e4, same, e5, points, e6, found, e7, later, e8}
}

// refused tells whether all calls answer an error alone.
func refused(h api.History, e api.Errno) bool {
	right := []any{[]int(nil), e, []api.Edge(nil), e, []api.Phen(nil), e, false, e, []int(nil), e, false, e, []api.Point(nil), e, []api.Point(nil), e, api.History{}, e}
	list, f := adya.Witness(h, api.G1a)
	_, g := adya.Witness(h, 9)
	_, i := adya.Meets(h, 9)
	return reflect.DeepEqual(answers(h, []int{0, 9}), right) && len(list) == 0 && f == e && g == e && i == e
}

// Check is held against the chapter, written down a second time, on histories of which most are none.
func TestCheckOfManyHistories(t *testing.T) {
	all := inBatches(t, 100000, func(m *maker) string {
		h := m.history(6)
		if e, x, o := adya.Check(h); e != api.OK || x != 0 || o != 0 {
			return fmt.Sprintf("P14.1: %+v: %d, %d, %d, want OK", h, e, x, o)
		}
		for range 1 + m.Intn(3) {
			h = m.spoiled(h)
		}
		e, x, o := adya.Check(h)
		right, rx, ro := plainCheck(h)
		if e != right || x != rx || o != ro {
			return fmt.Sprintf("P14.1: %+v: %d, %d, %d, want %d, %d, %d", h, e, x, o, right, rx, ro)
		}
		if m.met[fmt.Sprint("code ", e)]++; e != api.OK {
			if m.met[fmt.Sprint("at ", min(x, 3), " ", min(o, 3))]++; !refused(h, e) {
				return fmt.Sprintf("P14.1: %+v: not all calls answer %d alone", h, e)
			}
		}
		return ""
	})
	met(t, all, 500, "code 0", "code 140", "at 0 0", "at 0 1", "at 1 0", "at 1 1", "at 3 0")
	met(t, all, 100, "at 3 3", "at 2 2")
}

// Everything else is held against it, on histories that are some.
func TestManyHistories(t *testing.T) {
	all := inBatches(t, 60000, func(m *maker) string {
		h := m.history(6)
		if fault := faultOfGraph(m, h); fault != "" {
			return fmt.Sprintf("%+v: %s", h, fault)
		}
		if fault := faultOfRuns(m, h); fault != "" {
			return fmt.Sprintf("%+v: %s", h, fault)
		}
		return ""
	})
	met(t, all, 1000, "shows 2", "shows 3", "shows 5", "shows 6", "shows 7", "shows 8", "a grade of 1", "a grade of 2", "a grade of 3", "a grade of 4", "a grade of 5", "an order", "a cycle", "replays", "does not replay", "embed 0", "embed 145", "embed 146", "embed 147")
	met(t, all, 300, "shows 4", "edge 1", "edge 2", "edge 3", "edge 4", "edge 5", "[2]", "[5]", "[5 6 7 8]", "[5 6 8]", "[4 5]")
	met(t, all, 50, "[8]", "[7 8]", "[6]", "[3]")
	want(t, "P14.4: G0", all["shows 1"], 0)
}

func faultOfGraph(m *maker, h api.History) string {
	for _, key := range []string{"", "a", "b", "b\x00", "c", "d"} {
		if list, e := adya.Order(h, key); e != api.OK || !slices.Equal(list, plainOrder(h, key)) {
			return fmt.Sprintf("P14.2: %q: %v, %d", key, list, e)
		}
	}
	right := plainEdges(h)
	list, e := adya.Edges(h)
	if e != api.OK || !slices.Equal(list, right) {
		return fmt.Sprintf("P14.3: %v, %d, want %v", list, e, right)
	}
	for _, x := range list {
		m.met[fmt.Sprint("edge ", x.Kind)]++
	}
	shown := plainPhenomena(h, right)
	if got, e := adya.Phenomena(h); e != api.OK || !slices.Equal(got, shown) {
		return fmt.Sprintf("P14.4: %v, %d, want %v", got, e, shown)
	}
	m.met[fmt.Sprint(shown)]++
	for p := api.G0; p <= api.G2; p++ {
		if !slices.Contains(shown, p) {
			if w, e := adya.Witness(h, p); len(w) > 0 || e != api.ErrPhen {
				return fmt.Sprintf("P14.5: %d: %v, %d", p, w, e)
			}
			continue
		}
		m.met[fmt.Sprint("shows ", p)]++
		if fault := faultOfWitness(h, p); fault != "" {
			return fmt.Sprintf("P14.5: %d: %s", p, fault)
		}
	}
	for g := api.PL1; g <= api.PL3; g++ {
		good, e := adya.Meets(h, g)
		if e != api.OK || good != plainMeets(shown, g) {
			return fmt.Sprintf("P14.6: %d: %v, %d", g, good, e)
		}
		if good {
			m.met[fmt.Sprint("a grade of ", g)]++
		}
	}
	least, whole := plainSerial(h, right)
	switch got, e := adya.Serial(h); {
	case whole && (e != api.OK || !slices.Equal(got, least)):
		return fmt.Sprintf("P14.7: %v, %d, want %v", got, e, least)
	case !whole && (e != api.ErrCycle || len(got) > 0):
		return fmt.Sprintf("P14.7: %v, %d, want a cycle", got, e)
	case whole:
		m.met["an order"]++
	default:
		m.met["a cycle"]++
	}
	return ""
}

// byEnd tells the committed transactions by their ends.
func byEnd(h api.History) []int {
	var list []int
	for t := range h.Txns {
		if plainCommitted(h, t) {
			list = append(list, t)
		}
	}
	sort.Slice(list, func(i, j int) bool { return h.Txns[list[i]].End < h.Txns[list[j]].End })
	return list
}

func faultOfRuns(m *maker, h api.History) string {
	order := byEnd(h)
	for range 4 {
		same, e := adya.Replay(h, order...)
		right, code := plainReplay(h, order)
		if same != right || e != code {
			return fmt.Sprintf("P14.8: %v: %v, %d, want %v, %d", order, same, e, right, code)
		}
		m.met[map[bool]string{true: "replays", false: "does not replay"}[same]]++
		if m.Shuffle(len(order), func(i, j int) { order[i], order[j] = order[j], order[i] }); m.one(4) {
			order = append(order, m.Intn(8)-1)
		} else if len(order) > 0 && m.one(4) {
			order[m.Intn(len(order))] = m.Intn(8) - 1
		}
	}
	points, e := adya.Embed(h)
	right, code := plainRun(h, plainMoments(h))
	if e != code || !slices.Equal(points, right) {
		return fmt.Sprintf("P14.9: %v, %d, want %v, %d", points, e, right, code)
	}
	m.met[fmt.Sprint("embed ", e)]++
	later, e := adya.AtEnd(h)
	if e != api.OK || !reflect.DeepEqual(later, plainAtEnd(h)) {
		return fmt.Sprintf("P14.11: %+v, %d", later, e)
	}
	return ""
}

// plainAtEnd tells a history anew.
func plainAtEnd(h api.History) api.History {
	out := api.History{Txns: slices.Clone(h.Txns)}
	for t, x := range h.Txns {
		out.Txns[t].Ops = slices.Clone(x.Ops)
		for o, op := range x.Ops {
			if op.Kind == 3 && x.Iso == 4 && x.Fate == 1 {
				out.Txns[t].Ops[o].At = x.End
			}
		}
	}
	return out
}

// P14.10: Search is held against the trial of all orders.
func TestSearchOfManyHistories(t *testing.T) {
	all := inBatches(t, 16000, func(m *maker) string {
		h := m.history(4 + m.Intn(2))
		if fault := faultOfSearch(h); fault != "" {
			return fmt.Sprintf("P14.10: %+v: %s", h, fault)
		}
		_, e := adya.Search(h)
		_, f := adya.Embed(h)
		m.met[fmt.Sprint("search ", e, " of ", len(byEnd(h)))]++
		m.met[fmt.Sprint("search ", e, " embed ", f)]++
		return ""
	})
	met(t, all, 50, "search 0 of 4", "search 146 of 4", "search 0 of 3", "search 146 of 3", "search 0 of 2", "search 146 of 2", "search 141 of 5", "search 0 of 1", "search 0 embed 0")
	met(t, all, 20, "search 0 embed 145", "search 0 embed 146", "search 0 embed 147", "search 146 embed 145", "search 146 embed 146", "search 146 embed 147")
}
