package cells

import (
	"sync"
	"sync/atomic"

	"strata/api"
)

// Load reads a cell (P2.6).
func (a *Arena[P]) Load(slot, cell int) (uint64, api.Errno) {
	var held uint64
	e := a.access(slot, cell, func(word *atomic.Uint64) { held = word.Load() })
	return held, e
}

// Store writes a cell (P2.6).
func (a *Arena[P]) Store(slot, cell int, w uint64) api.Errno {
	return a.access(slot, cell, func(word *atomic.Uint64) { word.Store(w) })
}

// CAS writes a cell if it holds old (P2.6).
func (a *Arena[P]) CAS(slot, cell int, old, fresh uint64) (bool, api.Errno) {
	var swapped bool
	e := a.access(slot, cell, func(word *atomic.Uint64) { swapped = word.CompareAndSwap(old, fresh) })
	return swapped, e
}

// Add adds to a cell and tells what it held (P2.6).
func (a *Arena[P]) Add(slot, cell int, d uint64) (uint64, api.Errno) {
	var held uint64
	e := a.access(slot, cell, func(word *atomic.Uint64) { held = word.Add(d) - d })
	return held, e
}

// AddAll adds each delta by a worker of its own (P2.7).
func (a *Arena[P]) AddAll(slot, cell int, deltas ...uint64) (uint64, api.Errno) {
	if a.missing() {
		return 0, api.ErrNil
	}
	if len(deltas) > api.MaxDeltas {
		return 0, api.ErrWords
	}
	a.gate.Lock()
	defer a.gate.Unlock()
	word, e := a.word(slot, cell)
	if e != api.OK {
		return 0, e
	}
	var workers sync.WaitGroup
	for _, d := range deltas {
		workers.Go(func() {
			a.accesses.Add(1)
			word.Add(d)
		})
	}
	workers.Wait()
	return word.Load(), api.OK
}

// access makes one access to a cell: touch has it beside others that share the gate.
func (a *Arena[P]) access(slot, cell int, touch func(word *atomic.Uint64)) api.Errno {
	if a.missing() {
		return api.ErrNil
	}
	a.gate.RLock()
	defer a.gate.RUnlock()
	word, e := a.word(slot, cell)
	if e != api.OK {
		return e
	}
	a.accesses.Add(1)
	touch(word)
	return api.OK
}

// word tells a cell of a slot in use. Whoever asks holds the gate.
func (a *Arena[P]) word(slot, cell int) (*atomic.Uint64, api.Errno) {
	if _, e := a.reach(slot); e != api.OK {
		return nil, e
	}
	if cell < 0 || cell >= a.width {
		return nil, api.ErrCell
	}
	return &a.cellsOf(slot)[cell], api.OK
}
