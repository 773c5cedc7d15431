package cells_test

import (
	"math/rand"
	"runtime"
	"sync"
	"sync/atomic"
	"testing"

	"strata/api"
)

// together runs workers at the same time, begun at once, and waits for them.
func together(workers int, work func(who int)) {
	var begin, all sync.WaitGroup
	begin.Add(1)
	for who := range workers {
		all.Go(func() {
			begin.Wait()
			work(who)
		})
	}
	begin.Done()
	all.Wait()
}

// made is a call that was made, what it answered, and when it began and ended.
type made struct {
	call       call
	answer     string
	began, end int64
}

// inSomeOrder tells whether the calls can be put one behind the other, none ahead of one that had ended when it began, so that the model answers the same.
func inSomeOrder(m *model, left []made) bool {
	if len(left) == 0 {
		return true
	}
	first := left[0].end
	for _, c := range left {
		first = min(first, c.end)
	}
	for i, c := range left {
		if c.began > first {
			continue
		}
		next := m.clone()
		if ask(next, c.call) != c.answer {
			continue
		}
		rest := append(append([]made{}, left[:i]...), left[i+1:]...)
		if inSomeOrder(next, rest) {
			return true
		}
	}
	return false
}

func TestAsIfOneAfterTheOther(t *testing.T) {
	const workers, calls = 3, 5
	source := rand.New(rand.NewSource(4))
	for range 1500 {
		slots, width := 1+source.Intn(2), 1+source.Intn(2)
		a, m := arena[int](t, slots, width), newModel(slots, width)
		a.Alloc(7, 1)
		m.Alloc(7, 1)
		history := make([]made, workers*calls)
		for i := range history {
			history[i].call = anyCall(source, slots, width)
		}
		var now atomic.Int64
		together(workers, func(who int) {
			for i := who * calls; i < (who+1)*calls; i++ {
				history[i].began = now.Add(1)
				history[i].answer = ask(a, history[i].call)
				history[i].end = now.Add(1)
			}
		})
		if !inSomeOrder(m, history) {
			t.Fatalf("P2.14: no order of these calls has these answers: %+v", history)
		}
	}
}

func TestNoAddIsLost(t *testing.T) {
	const workers, times = 8, 40000
	a := arena[int](t, 1, 3)
	a.Alloc(0)
	together(workers, func(who int) {
		for range times {
			a.Add(1, 0, 1)
		}
	})
	want(t, "P2.14: Add", pair(a.Load(1, 0)), pair(workers*times, api.OK))
	var swaps atomic.Int64
	together(workers, func(who int) {
		for range times {
			held, _ := a.Load(1, 1)
			if ok, _ := a.CAS(1, 1, held, held+1); ok {
				swaps.Add(1)
			}
		}
	})
	want(t, "P2.14: CAS", pair(a.Load(1, 1)), pair(swaps.Load(), api.OK))
	together(workers, func(who int) {
		for range 300 {
			a.AddAll(1, 2, 1, 2, 1<<64-2)
			a.Add(1, 2, 1)
		}
	})
	want(t, "P2.14: AddAll", pair(a.Load(1, 2)), pair(workers*600, api.OK))
	want(t, "P2.8: accesses", a.Accesses(), 1+workers*times*3+workers*1200+3)
}

// Nobody sees some of the deltas of one AddAll and not the others.
func TestAddAllIsSeenWhole(t *testing.T) {
	a := arena[int](t, 1, 1)
	a.Alloc(0)
	var done atomic.Bool
	together(4, func(who int) {
		if who == 0 {
			for range 2000 {
				if w, _ := a.AddAll(1, 0, 1, 2, 3, 1, 1); w%8 != 0 {
					t.Errorf("P2.14: AddAll answers %d", w)
				}
			}
			done.Store(true)
		}
		for !done.Load() {
			if w, _ := a.Load(1, 0); w%8 != 0 {
				t.Errorf("P2.14: Load sees %d in the midst of an AddAll", w)
			}
			runtime.Gosched()
		}
	})
}

// Of several that free a slot at the same time one does; the others miss.
func TestFreeOnce(t *testing.T) {
	const slots, workers, rounds = 4096, 6, 10
	a := arena[int](t, slots, 1)
	var freed, missed atomic.Int64
	for range rounds {
		for range slots {
			a.Alloc(0)
		}
		together(workers, func(who int) {
			for slot := 1; slot <= slots; slot++ {
				switch a.Free(slot) {
				case api.OK:
					freed.Add(1)
				case api.ErrSlot:
					missed.Add(1)
				}
			}
		})
	}
	want(t, "P2.14: freed, missed", []int64{freed.Load(), missed.Load()}, []int64{slots * rounds, slots * rounds * (workers - 1)})
	want(t, "P2.8: counts", []int{a.Accesses(), a.Misses()}, []int{2 * slots * rounds, slots * rounds * (workers - 1)})
}

// Those that only allocate take each slot once, in the queue's order.
func TestAllocsInOrder(t *testing.T) {
	const slots, workers = 4096, 6
	for range 10 {
		a := arena[int](t, slots, 1)
		taken := make([][]int, workers)
		together(workers, func(who int) {
			for {
				slot, e := a.Alloc(who)
				if e != api.OK {
					return
				}
				taken[who] = append(taken[who], slot)
			}
		})
		count := 0
		for who, own := range taken {
			for i, slot := range own {
				if p, _ := a.Payload(slot); p != who || i > 0 && own[i-1] >= slot {
					t.Fatalf("P2.14: worker %d has slot %d of %d behind slot %d", who, slot, p, own[max(i, 1)-1])
				}
			}
			count += len(own)
		}
		want(t, "P2.14: slots, accesses", []int{count, a.Accesses()}, []int{slots, slots + workers})
	}
}

// No slot is handed out twice, and none is lost.
func TestAllocOnce(t *testing.T) {
	const slots, workers = 40, 8
	a := arena[int](t, slots, 1)
	var owners [slots + 1]atomic.Int64
	var full atomic.Int64
	together(workers, func(who int) {
		var own []int
		for i := range 3000 {
			if slot, e := a.Alloc(who, uint64(i)); e == api.OK {
				if owners[slot].Add(1) != 1 {
					t.Errorf("P2.14: slot %d was handed out twice", slot)
				}
				own = append(own, slot)
			} else {
				full.Add(1)
			}
			if len(own) > 6 || len(own) > 0 && i%3 == 0 {
				slot := own[0]
				own = own[1:]
				if p, _ := a.Payload(slot); p != who {
					t.Errorf("P2.14: slot %d holds %d, want %d", slot, p, who)
				}
				owners[slot].Add(-1)
				if e := a.Free(slot); e != api.OK {
					t.Errorf("P2.14: Free = %d", e)
				}
			}
		}
		for _, slot := range own {
			owners[slot].Add(-1)
			a.Free(slot)
		}
	})
	turns := 0
	for slot := 1; slot <= slots; slot++ {
		n, _ := a.Turn(slot)
		turns += n
	}
	want(t, "P2.14: turns", turns, workers*3000-int(full.Load()))
	want(t, "P2.14: accesses", a.Accesses(), workers*3000+turns)
	want(t, "P2.14: in use", len(a.Live()), 0)
	for range slots {
		if slot, e := a.Alloc(0); e != api.OK || owners[slot].Add(1) != 1 {
			t.Errorf("P2.14: Alloc = %d, %d", slot, e)
		}
	}
}

// An Alloc that is counted has its slot in use.
func TestAllocsAreCountedWithTheirSlots(t *testing.T) {
	const slots = 4096
	a := arena[int](t, slots, 16)
	together(4, func(who int) {
		for n := 0; n < slots; {
			if who == 0 {
				a.Alloc(0)
			}
			n = a.Accesses()
			if _, e := a.Payload(n); n > 0 && e != api.OK {
				t.Errorf("P2.14: %d Allocs are counted, and slot %d is not in use", n, n)
				return
			}
		}
	})
}

// Whoever sees an access done sees it counted, and none is counted that is not done.
func TestCountsKeepUp(t *testing.T) {
	a := arena[int](t, 1, 1)
	a.Alloc(0)
	var done atomic.Bool
	together(4, func(who int) {
		if who == 0 {
			for range 5000 {
				a.Add(1, 0, 1)
			}
			done.Store(true)
		}
		for !done.Load() {
			peeked, _ := a.Peek(1)
			counted := a.Accesses()
			again, _ := a.Peek(1)
			if counted < int(peeked[0])+1 || counted > int(again[0])+1 {
				t.Errorf("P2.14: %d were counted between %d and %d", counted, peeked[0]+1, again[0]+1)
			}
			runtime.Gosched()
		}
	})
}

// A payload is seen whole, or its slot is not in use.
func TestPayloadsAreSeenWhole(t *testing.T) {
	type wide [128]int
	var full wide
	for i := range full {
		full[i] = 5
	}
	a := arena[wide](t, 1, 1)
	var done atomic.Bool
	together(4, func(who int) {
		if who == 0 {
			for range 20000 {
				a.Alloc(full)
				a.Free(1)
			}
			done.Store(true)
		}
		for !done.Load() {
			if p, e := a.Payload(1); e == api.OK && p != full || e == api.ErrSlot && p != (wide{}) {
				t.Errorf("P2.14: Payload(1) = %v, %d", p, e)
				return
			}
		}
	})
}

// A list of the slots in use is one that was so at one time: here one slot follows the other, and one or two are in use.
func TestLiveIsOfOneTime(t *testing.T) {
	const slots = 64
	a := arena[int](t, slots, 1)
	a.Alloc(0)
	var done atomic.Bool
	together(4, func(who int) {
		if who == 0 {
			for i := range 60000 {
				a.Alloc(i)
				a.Free(i%slots + 1)
			}
			done.Store(true)
		}
		for !done.Load() {
			if l := a.Live(); len(l) != 1 && (len(l) != 2 || l[1]-l[0] != 1 && l[1]-l[0] != slots-1) {
				t.Errorf("P2.14: Live() = %v", l)
				return
			}
			runtime.Gosched()
		}
	})
}
