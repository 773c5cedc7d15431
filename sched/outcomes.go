package sched

import (
	"cmp"
	"slices"

	"strata/api"
)

// Where the words of a state stand.
const (
	cellsAt    = 0
	regsAt     = cellsAt + api.MaxShared
	placesAt   = regsAt + api.MaxThreads*api.LitmusRegs
	stateWords = placesAt + api.MaxThreads
)

// state is all of a bench that the steps to come hang on: cells, registers, places.
type state [stateWords]uint64

// visit is a state that was come to: by a step of worker who, from the visit with the number from.
type visit struct {
	state     state
	from, who int
}

// walk goes through all states that a litmus program can come to, each once.
type walk struct {
	bench  *Bench
	visits []visit            // in the order in which they were found, the first state ahead
	found  map[state]struct{} // their states
	ends   []int              // the numbers of those in which all threads are done
}

// Outcomes tells every outcome over all schedules (P3.13).
func Outcomes(l api.Litmus) ([]api.Outcome, api.Errno) {
	w, e := explore(l)
	if e != api.OK {
		return nil, e
	}
	var all []api.Outcome
	for _, end := range w.ends {
		all = append(all, w.outcome(end))
	}
	slices.SortFunc(all, compare)
	return all, api.OK
}

// Witness gives a schedule with that outcome (P3.14).
func Witness(l api.Litmus, o api.Outcome) (string, api.Errno) {
	w, e := explore(l)
	if e != api.OK {
		return "", e
	}
	for _, end := range w.ends {
		if compare(w.outcome(end), o) == 0 {
			return Encode(w.path(end)...)
		}
	}
	return "", api.ErrOutcome
}

// compare holds two outcomes against each other, the cells ahead of the registers.
func compare(a, b api.Outcome) int {
	return cmp.Or(slices.Compare(a.Cells, b.Cells), slices.Compare(a.Regs, b.Regs))
}

// explore steps every thread from every state. Steps lead on only, so the states come to an end.
func explore(l api.Litmus) (*walk, api.Errno) {
	bench, e := Lay(l)
	if e != api.OK {
		return nil, e
	}
	w := &walk{bench: bench, found: map[state]struct{}{}}
	w.meet(visit{state: bench.state()})
	for i := 0; i < len(w.visits); i++ {
		w.leave(i)
	}
	return w, api.OK
}

// meet takes a visit in, unless its state has been found before.
func (w *walk) meet(v visit) {
	if _, known := w.found[v.state]; known {
		return
	}
	w.found[v.state] = struct{}{}
	w.visits = append(w.visits, v)
}

// leave makes, from that visit's state, one step of each thread that is not done.
func (w *walk) leave(number int) {
	end := true
	for who, thread := range w.bench.threads {
		w.bench.restore(w.visits[number].state)
		if thread.done() {
			continue
		}
		end = false
		thread.Step()
		w.meet(visit{state: w.bench.state(), from: number, who: who})
	}
	if end {
		w.ends = append(w.ends, number)
	}
}

// outcome tells what cells and registers hold in that visit's state.
func (w *walk) outcome(number int) api.Outcome {
	w.bench.restore(w.visits[number].state)
	o, _ := w.bench.Outcome()
	return o
}

// path tells the steps by which that visit was come to; the first visit has none.
func (w *walk) path(number int) []api.Pick {
	var picks []api.Pick
	for ; number > 0; number = w.visits[number].from {
		picks = append(picks, api.Pick{Kind: api.PickStep, Who: w.visits[number].who, N: 1})
	}
	slices.Reverse(picks)
	return picks
}

// state tells the words of the bench as it is.
func (b *Bench) state() state {
	var s state
	held, _ := b.board.arena.Peek(b.board.slot)
	copy(s[cellsAt:regsAt], held)
	for i, t := range b.threads {
		copy(s[regsAt+i*api.LitmusRegs:placesAt], t.regs[:])
		s[placesAt+i] = uint64(t.place)
	}
	return s
}

// restore puts the bench's cells and threads into a state that it told.
func (b *Bench) restore(s state) {
	_, width := b.board.arena.Shape()
	for cell := range width {
		b.board.arena.Store(b.board.slot, cell, s[cellsAt+cell])
	}
	for i, t := range b.threads {
		copy(t.regs[:], s[regsAt+i*api.LitmusRegs:])
		t.place = int(s[placesAt+i])
	}
}
