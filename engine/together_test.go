package engine_test

import (
	"fmt"
	"math/rand"
	"sync"
	"testing"

	"strata/api"
)

// saga is a made-up run of many sessions.
type saga struct {
	*watcher
	chance
	config api.Config
	levels []int
	left   int                  // calls that are still to be given
	make   func(s int) api.Call // makes up a call for a session
	most   int                  // rounds that were needed till all were done
	met    map[string]int
}

// tell tells a saga to its end.
func (x *saga) tell() {
	for x.left > 0 {
		s := x.Intn(x.config.Sessions)
		if x.present[s] == nil {
			x.left--
			x.begin(s, x.make(s))
		}
		for range x.pace(s) {
			if x.goOn(s) {
				break
			}
		}
		if x.Intn(150) == 0 {
			x.settle()
		}
	}
	x.settle()
	if fault := x.judge(); fault != "" {
		x.t.Fatal(fault)
	}
	for _, d := range x.deals {
		x.met[fmt.Sprint("level ", d.iso, " fate ", d.fate, " by ", int(d.code))]++
	}
}

// pace is how many steps a session makes in one go: one that is about to commit is slow.
func (x *saga) pace(s int) int {
	if d := x.of[s]; d != nil && x.present[s].Kind == api.CallCommit {
		for _, id := range x.Base().Tx.Live() {
			info, _ := x.Base().Tx.Info(id)
			if state, _, _ := x.Base().Tx.Look(id); state == api.TxPreparing && info.Session == s && info.Iso != 0 {
				return x.Intn(30) / 29
			}
		}
	}
	return 1 + x.Intn(30)
}

// settle steps all that are at work in rounds, till none is: P10.19; then P10.17 has to hold.
func (x *saga) settle() {
	for rounds := 1; len(x.present) > 0; rounds++ {
		for s := range x.config.Sessions {
			if x.present[s] != nil {
				x.goOn(s)
			}
		}
		if x.most = max(x.most, rounds); rounds > x.bound() {
			x.t.Fatalf("P10.19: they are not done behind %d rounds", rounds)
		}
	}
	if fault := x.resting(); fault != "" {
		x.t.Fatal(fault)
	}
	if x.Base().Misses() != 0 {
		x.t.Fatalf("P10.19: %d misses", x.Base().Misses())
	}
}

// bound is above the rounds that any call needs: a collect, or a sweep, goes over buckets, and takes versions out of both indexes; a commit waits for those of the others.
func (x *saga) bound() int {
	c := x.config
	return (c.Coop+c.Buckets+1)*(c.TxSlots+20) + 60*c.Slots + 100*c.Sessions
}

func newSaga(t *testing.T, seed int64, config api.Config, met map[string]int) *saga {
	x := &saga{chance: chance{rand.New(rand.NewSource(seed)), someKeys()}, config: config, levels: []int{rc, si, rr, full, full}, left: 60, met: met}
	rows := x.someRows(config)
	x.watcher = watch(open(t, config, rows...), rows...)
	x.make = func(s int) api.Call { return x.call(x.Open(s), config.Buckets, x.levels) }
	return x
}

// inBatches tells sagas by their seeds, on all processors; it tells what they met.
func inBatches(t *testing.T, n int, tell func(t *testing.T, seed int64, met map[string]int)) map[string]int {
	const batches = 8
	all := map[string]int{}
	var lock sync.Mutex
	t.Run("batches", func(t *testing.T) {
		for batch := range batches {
			t.Run(fmt.Sprint(batch), func(t *testing.T) {
				t.Parallel()
				met := map[string]int{}
				for i := range n / batches {
					seed := int64(i*batches + batch)
					tell(t, seed, met)
					if t.Failed() {
						t.Fatalf("seed %d", seed)
					}
				}
				lock.Lock()
				defer lock.Unlock()
				for what, n := range met {
					all[what] += n
				}
			})
		}
	})
	t.Log(all)
	return all
}

// meets looks whether the runs have met what they are for.
func meets(t *testing.T, met map[string]int, least map[string]int) {
	t.Helper()
	for what, n := range least {
		if met[what] < n {
			t.Errorf("the runs have hardly met %q: %d times", what, met[what])
		}
	}
}

// All sessions write few keys: P10.15 to P10.20.
func TestManySessionsInManyOrders(t *testing.T) {
	met := inBatches(t, 2400, func(t *testing.T, seed int64, met map[string]int) {
		source := rand.New(rand.NewSource(seed))
		c := api.Config{Slots: 150, Buckets: 1 + source.Intn(3), TxSlots: 60, Sessions: 2 + source.Intn(4), Clock: uint64(source.Intn(5)), Coop: source.Intn(3)}
		x := newSaga(t, seed, c, met)
		x.keys = x.keys[:1+source.Intn(4)]
		if source.Intn(2) == 0 {
			x.levels = [][]int{{rc}, {si}, {rr}, {full}}[source.Intn(4)]
		}
		x.tell()
		met["rounds"] = max(met["rounds"], x.most)
	})
	least := map[string]int{}
	for iso := rc; iso <= full; iso++ {
		least[fmt.Sprint("level ", iso, " fate 1 by 0")] = 1000
		least[fmt.Sprint("level ", iso, " fate 2 by ", int(api.ErrConflict))] = 100
		least[fmt.Sprint("level ", iso, " fate 2 by ", int(api.ErrCascade))] = 1
	}
	least[fmt.Sprint("level ", rr, " fate 2 by ", int(api.ErrRead))] = 50
	least[fmt.Sprint("level ", full, " fate 2 by ", int(api.ErrRead))] = 50
	least[fmt.Sprint("level ", full, " fate 2 by ", int(api.ErrPhantom))] = 50
	meets(t, met, least)
	for iso := rc; iso <= full; iso++ {
		for _, never := range []api.Errno{api.ErrFull, api.ErrLong, api.ErrDeps, api.ErrClock, api.ErrTx, api.ErrSlot} {
			want(t, fmt.Sprint("level ", iso, " ends by ", int(never)), met[fmt.Sprint("level ", iso, " fate 2 by ", int(never))], 0)
		}
	}
}

// With little room calls are refused as well; all that was promised holds.
func TestManySessionsWithLittleRoom(t *testing.T) {
	met := inBatches(t, 1600, func(t *testing.T, seed int64, met map[string]int) {
		source := rand.New(rand.NewSource(seed))
		c := api.Config{Slots: 5 + source.Intn(12), Buckets: 1 + source.Intn(4), TxSlots: 2 + source.Intn(6), Sessions: 2 + source.Intn(4), Clock: 3, Coop: source.Intn(api.MaxCoop + 1)}
		if source.Intn(4) == 0 {
			c.Clock = api.MaxTime - uint64(source.Intn(80))
		}
		x := newSaga(t, seed, c, met)
		x.keys = x.keys[:1+source.Intn(4)]
		x.tell()
	})
	meets(t, met, map[string]int{
		fmt.Sprint("level ", full, " fate 1 by 0"): 500, fmt.Sprint("level ", full, " fate 2 by ", int(api.ErrFull)): 50, fmt.Sprint("level ", full, " fate 2 by ", int(api.ErrClock)): 5,
	})
}

// prefixed makes up a call on keys that no other session calls.
func (x *saga) prefixed(s int) api.Call {
	c := x.call(x.Open(s), x.config.Buckets, x.levels)
	mine := fmt.Sprint(s)
	switch {
	case c.Kind == api.CallScan && c.High == "":
		c.Key, c.High = mine+c.Key, mine+"\xff"
	case c.Kind == api.CallScan:
		c.Key, c.High = mine+c.Key, mine+c.High
	case c.Key != "":
		c.Key = mine + c.Key
	}
	return c
}

// Sessions that have no key in common are never in each other's way (P10.18); nor is one that works alone.
func TestSessionsWithoutACommonKey(t *testing.T) {
	met := inBatches(t, 800, func(t *testing.T, seed int64, met map[string]int) {
		source := rand.New(rand.NewSource(seed))
		c := api.Config{Slots: 200, Buckets: 1 + source.Intn(2), TxSlots: 60, Sessions: 1 + source.Intn(5), Coop: source.Intn(2)}
		x := newSaga(t, seed, c, met)
		x.keys = x.keys[:1+source.Intn(3)]
		x.make = x.prefixed
		x.tell()
		for _, d := range x.deals {
			if d.fate == api.FAborted && d.code != api.OK {
				t.Fatalf("P10.18: %+v ended a transaction with %d", d.turns[len(d.turns)-1].Call, d.code)
			}
			met["dealt"]++
		}
	})
	meets(t, met, map[string]int{"dealt": 5000})
}

// Where each call is run to its end ahead of the next, sweeping is not to be seen (P0.6).
func TestSweepingIsNotSeen(t *testing.T) {
	inBatches(t, 400, func(t *testing.T, seed int64, met map[string]int) {
		var tales [3]string
		for i := range tales {
			c := api.Config{Slots: 300, Buckets: 2, TxSlots: 80, Sessions: 3, Coop: i % 2}
			x := newSaga(t, seed, c, met)
			x.keys = x.keys[:3]
			other := rand.New(rand.NewSource(seed + 1))
			for range 60 {
				s := x.Intn(3)
				call := x.call(x.Open(s), 2, x.levels)
				for call.Kind == api.CallCollect {
					call = x.call(x.Open(s), 2, x.levels)
				}
				for i == 2 && other.Intn(2) == 0 {
					x.do(other.Intn(3), collect(1+other.Intn(2)))
				}
				x.begin(s, call)
				for !x.goOn(s) {
				}
			}
			for _, d := range x.deals {
				tales[i] += fmt.Sprintln(d.iso, d.fate, int(d.code))
				for _, y := range d.turns {
					tales[i] += fmt.Sprintln(y.Call, y.Code, y.Rows)
				}
			}
		}
		if tales[0] != tales[1] || tales[0] != tales[2] {
			t.Fatalf("P0.6: the answers are others:\n%s\n%s\n%s", tales[0], tales[1], tales[2])
		}
	})
}
