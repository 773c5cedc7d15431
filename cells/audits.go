package cells

import (
	"iter"
	"sync/atomic"

	"strata/api"
)

// Accesses tells how many there have been (P2.8).
func (a *Arena[P]) Accesses() int {
	if a.missing() {
		return 0
	}
	return a.told(&a.accesses)
}

// Misses tells how many calls found their slot not in use (P2.8).
func (a *Arena[P]) Misses() int {
	if a.missing() {
		return 0
	}
	return a.told(&a.misses)
}

// told reads a count while nobody is between what he does and counting it.
func (a *Arena[P]) told(count *atomic.Int64) int {
	a.gate.Lock()
	defer a.gate.Unlock()
	return int(count.Load())
}

// Peek tells all cells of a slot, without an access (P2.9).
func (a *Arena[P]) Peek(slot int) ([]uint64, api.Errno) {
	if a.missing() {
		return nil, api.ErrNil
	}
	a.gate.Lock()
	defer a.gate.Unlock()
	if _, e := a.inUse(slot); e != api.OK {
		return nil, e
	}
	cells := a.cellsOf(slot)
	words := make([]uint64, len(cells))
	for i := range cells {
		words[i] = cells[i].Load()
	}
	return words, api.OK
}

// Turn tells how often a slot has been handed out (P2.10).
func (a *Arena[P]) Turn(slot int) (int, api.Errno) {
	if a.missing() {
		return 0, api.ErrNil
	}
	if !a.has(slot) {
		return 0, api.ErrSlot
	}
	a.gate.Lock()
	defer a.gate.Unlock()
	return a.slots[slot-1].turns, api.OK
}

// Live tells the slots in use, rising (P2.11).
func (a *Arena[P]) Live() []int {
	var numbers []int
	for number := range a.All() {
		numbers = append(numbers, number)
	}
	return numbers
}

// All goes over the slots in use with their payloads (P2.12).
func (a *Arena[P]) All() iter.Seq2[int, P] {
	return func(yield func(int, P) bool) {
		for _, h := range a.holdings() {
			if !yield(h.number, h.payload) {
				return
			}
		}
	}
}

// Total adds up the sizes of all payloads (P2.13).
func Total[P any, N ~int | ~uint64](a *Arena[P], size func(P) N) N {
	var sum N
	if size == nil {
		return sum
	}
	for _, p := range a.All() {
		sum += size(p)
	}
	return sum
}

// holding is a slot in use and what it holds.
type holding[P any] struct {
	number  int
	payload P
}

// holdings tells the slots in use, rising. It has let go of the gate when it answers, so that whoever goes over them may call the arena.
func (a *Arena[P]) holdings() []holding[P] {
	if a.missing() {
		return nil
	}
	a.gate.Lock()
	defer a.gate.Unlock()
	var all []holding[P]
	for i := range a.slots {
		if s := &a.slots[i]; s.used.Load() {
			all = append(all, holding[P]{i + 1, s.payload})
		}
	}
	return all
}
