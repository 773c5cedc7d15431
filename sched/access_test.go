package sched

import (
	"slices"
	"testing"

	"strata/api"
)

// Each step of a thread makes one access to the bench's own arena; a skip, and a step of a thread that is done, make none.
func TestAccessesOfSteps(t *testing.T) {
	one := api.Val{Reg: -1, Imm: 1}
	b, e := Lay(api.Litmus{Cells: []uint64{4, 5}, Threads: [][]api.Instr{{
		{Op: api.InLoad}, {Op: api.InStore, Cell: 1, New: one}, {Op: api.InSwap, Old: one, New: one},
		{Op: api.InAdd, New: one}, {Op: api.InSkip, New: one, N: 1}, {Op: api.InLoad},
	}}})
	if e != api.OK {
		t.Fatalf("P3.11: Lay: %d", e)
	}
	if live := b.board.arena.Live(); !slices.Equal(live, []int{b.board.slot}) {
		t.Errorf("P3.11: the arena's slots in use: %v", live)
	}
	for i, accesses := range []int{1, 1, 1, 1, 0, 1, 0, 0} {
		before := b.board.arena.Accesses()
		b.Thread(0).Step()
		if made := b.board.arena.Accesses() - before; made != accesses {
			t.Errorf("P3.10: step %d makes %d accesses, want %d", i, made, accesses)
		}
	}
	before := b.board.arena.Accesses()
	b.Outcome()
	b.Events()
	if b.board.arena.Accesses() != before || b.board.arena.Misses() != 0 {
		t.Error("P3.11: an audit makes an access, or a step misses its slot")
	}
}

// No state is gone through twice: two threads of n steps that leave no trace have (n + 1)^2 states.
func TestStatesAreMetOnce(t *testing.T) {
	still := slices.Repeat([]api.Instr{{Op: api.InLoad}}, 5)
	w, e := explore(api.Litmus{Cells: []uint64{0}, Threads: [][]api.Instr{still, still}})
	if e != api.OK || len(w.visits) != 36 || len(w.ends) != 1 {
		t.Errorf("P3.13: %d states with %d ends, want 36 with 1", len(w.visits), len(w.ends))
	}
}
