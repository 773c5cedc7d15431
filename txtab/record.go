package txtab

import (
	"math"
	"sync/atomic"

	"strata/api"
)

// unused is the state of a record that is not in use: so one load tells both.
const unused = 0

// What a place for a dependent holds beside a number.
const (
	empty  = 0
	closed = math.MaxUint64
)

// What is added to a word of dependencies: its low half tells the open ones, its high half those that have aborted (P6.6).
const (
	oneOpens   = 1
	oneCloses  = math.MaxUint64
	oneAborted = 1<<32 - 1
)

// record is what a place holds. The info and whether it is retired change only where the table's lock is held alone.
type record struct {
	info       api.TxInfo
	state      atomic.Int64
	announced  atomic.Uint64
	end        atomic.Uint64
	word       atomic.Uint64 // of dependencies
	dependents [api.MaxDeps]atomic.Uint64
	retired    bool
}

// open lays out the record anew; nothing is announced since its place was given back. The state comes last, behind all that goes with it.
func (r *record) open(info api.TxInfo) {
	r.info = info
	r.retired = false
	r.end.Store(0)
	r.word.Store(0)
	for i := range r.dependents {
		r.dependents[i].Store(empty)
	}
	r.state.Store(api.TxActive)
}

// State reads a record's state (P6.4). One access.
func (t *Table) State(id int) (int, api.Errno) {
	state := 0
	e := t.touch(id, func(r *record) api.Errno {
		state = int(r.state.Load())
		return api.OK
	})
	return state, e
}

// Move writes a record's state, if it may follow the one that is there (P6.4). One access.
func (t *Table) Move(id, state int) api.Errno {
	return t.touch(id, func(r *record) api.Errno {
		for {
			old := r.state.Load()
			if !mayFollow(int(old), state) {
				return api.ErrMove
			}
			if r.state.CompareAndSwap(old, int64(state)) {
				return api.OK
			}
		}
	})
}

func mayFollow(old, state int) bool {
	switch old {
	case api.TxActive:
		return state == api.TxPreparing || state == api.TxAborted || state == api.TxTerminated
	case api.TxPreparing:
		return state == api.TxCommitted || state == api.TxAborted
	case api.TxCommitted, api.TxAborted:
		return state == api.TxTerminated
	}
	return false
}

// Announced reads the announced begin of a place, whether its record is in use or not; 0: none (P6.5). One access.
func (t *Table) Announced(id int) (uint64, api.Errno) {
	if t.missing() {
		return 0, api.ErrNil
	}
	t.lock.RLock()
	defer t.lock.RUnlock()
	t.accesses.Add(1)
	if !t.has(id) {
		return 0, api.ErrTx
	}
	return t.records[id-1].announced.Load(), api.OK
}

// Announce writes it; 0 takes it back (P6.5). One access.
func (t *Table) Announce(id int, begin uint64) api.Errno {
	return t.touch(id, func(r *record) api.Errno {
		if begin > api.MaxTime {
			return api.ErrArg
		}
		r.announced.Store(begin)
		return api.OK
	})
}

// End reads a record's end timestamp; 0: not drawn (P6.6). One access.
func (t *Table) End(id int) (uint64, api.Errno) {
	end := uint64(0)
	e := t.touch(id, func(r *record) api.Errno {
		end = r.end.Load()
		return api.OK
	})
	return end, e
}

// swapEnd puts a record's end timestamp, if none is drawn. One access.
func (t *Table) swapEnd(id int, end uint64) (bool, api.Errno) {
	swapped := false
	e := t.touch(id, func(r *record) api.Errno {
		swapped = r.end.CompareAndSwap(0, end)
		return api.OK
	})
	return swapped, e
}

// Waits reads a record's dependencies: how many are open, how many have aborted (P6.6). One access.
func (t *Table) Waits(id int) (open, aborted int, e api.Errno) {
	e = t.touch(id, func(r *record) api.Errno {
		word := r.word.Load()
		open, aborted = int(uint32(word)), int(word>>32)
		return api.OK
	})
	return open, aborted, e
}

// addWord adds to a record's word of dependencies. One access.
func (t *Table) addWord(id int, delta uint64) api.Errno {
	return t.touch(id, func(r *record) api.Errno {
		r.word.Add(delta)
		return api.OK
	})
}

// readPlace reads a place for a dependent. One access.
func (t *Table) readPlace(id, place int) (uint64, api.Errno) {
	holds := uint64(0)
	e := t.touch(id, func(r *record) api.Errno {
		holds = r.dependents[place].Load()
		return api.OK
	})
	return holds, e
}

// swapPlace writes a place for a dependent, if it still holds old. One access.
func (t *Table) swapPlace(id, place int, old, fresh uint64) (bool, api.Errno) {
	swapped := false
	e := t.touch(id, func(r *record) api.Errno {
		swapped = r.dependents[place].CompareAndSwap(old, fresh)
		return api.OK
	})
	return swapped, e
}
