package sched

import (
	"slices"

	"strata/api"
	"strata/cells"
)

// board is the memory that a litmus program's threads share: the cells of one slot, which holds nothing else.
type board struct {
	arena *cells.Arena[struct{}]
	slot  int
}

// Thread is a machine: one thread of a litmus program (P3.10).
type Thread struct {
	board  board
	instrs []api.Instr
	regs   [api.LitmusRegs]uint64
	place  int
}

// Step works off one instruction (P3.10).
func (t *Thread) Step() bool {
	if t == nil {
		return true
	}
	if !t.done() {
		t.work(t.instrs[t.place])
	}
	return t.done()
}

// Regs tells what the registers hold (P3.10).
func (t *Thread) Regs() []uint64 {
	if t == nil {
		return nil
	}
	return slices.Clone(t.regs[:])
}

func (t *Thread) done() bool { return t.place >= len(t.instrs) }

// work makes an instruction's access, and the place goes on. No access is refused: Lay has looked at every instruction.
func (t *Thread) work(in api.Instr) {
	fresh, old := t.value(in.New), t.value(in.Old)
	on := 1
	switch in.Op {
	case api.InLoad:
		t.regs[in.Reg], _ = t.board.arena.Load(t.board.slot, in.Cell)
	case api.InStore:
		t.board.arena.Store(t.board.slot, in.Cell, fresh)
	case api.InSwap:
		swapped, _ := t.board.arena.CAS(t.board.slot, in.Cell, old, fresh)
		t.regs[in.Reg] = truth(swapped)
	case api.InAdd:
		t.regs[in.Reg], _ = t.board.arena.Add(t.board.slot, in.Cell, fresh)
	case api.InSkip:
		if t.regs[in.Reg] == fresh {
			on += in.N
		}
	}
	t.place = min(t.place+on, len(t.instrs))
}

// value reckons a Val. One that its instruction does not use may name any register.
func (t *Thread) value(v api.Val) uint64 {
	if v.Reg < 0 || v.Reg >= api.LitmusRegs {
		return v.Imm
	}
	return v.Imm + t.regs[v.Reg]
}

func truth(b bool) uint64 {
	if b {
		return 1
	}
	return 0
}
