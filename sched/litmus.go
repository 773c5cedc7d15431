package sched

import "strata/api"

// isLitmus tells whether a litmus program is one (P3.9).
func isLitmus(l api.Litmus) bool {
	if !within(len(l.Threads), 1, api.MaxThreads) || !within(len(l.Cells), 1, api.MaxShared) {
		return false
	}
	left := api.MaxInstrs
	for _, instrs := range l.Threads {
		left -= len(instrs)
		if left < 0 {
			return false
		}
		for _, in := range instrs {
			if !isInstr(in, len(l.Cells)) {
				return false
			}
		}
	}
	return true
}

// isInstr looks at the fields that count for the instruction's Op, and at no other one.
func isInstr(in api.Instr, cells int) bool {
	cell := within(in.Cell, 0, cells-1)
	reg := within(in.Reg, 0, api.LitmusRegs-1)
	switch in.Op {
	case api.InLoad:
		return cell && reg
	case api.InStore:
		return cell && isVal(in.New)
	case api.InSwap:
		return cell && reg && isVal(in.Old) && isVal(in.New)
	case api.InAdd:
		return cell && reg && isVal(in.New)
	case api.InSkip:
		return reg && isVal(in.New) && within(in.N, 1, api.MaxInstrs)
	}
	return false
}

func isVal(v api.Val) bool { return within(v.Reg, -1, api.LitmusRegs-1) }

func within(n, least, most int) bool { return n >= least && n <= most }
