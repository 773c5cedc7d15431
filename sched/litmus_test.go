package sched_test

import (
	"math"
	"slices"
	"testing"

	"strata/api"
	"strata/sched"
)

// wantLitmus asks all calls that take a program whether it is one.
func wantLitmus(t *testing.T, what string, l api.Litmus, is bool) {
	t.Helper()
	right := api.ErrLitmus
	if is {
		right = api.OK
	}
	b, e := sched.Lay(l)
	want(t, "P3.9: Lay: "+what, pair(b != nil, e), pair(is, right))
	o, e := sched.Run(l, "\x00")
	want(t, "P3.9: Run: "+what, pair(len(o.Cells)+len(o.Regs) > 0, e), pair(is, right))
	all, e := sched.Outcomes(l)
	want(t, "P3.9: Outcomes: "+what, pair(len(all) > 0, e), pair(is, right))
	s, e := sched.Witness(l, api.Outcome{})
	if is {
		right = api.ErrOutcome
	}
	want(t, "P3.9: Witness, ahead of ErrOutcome: "+what, pair(s, e), pair("", right))
}

func TestSizesOfPrograms(t *testing.T) {
	for n := range 8 {
		is := n >= 1 && n <= 4
		wantLitmus(t, "threads", program([]uint64{0}, make([][]api.Instr, n)...), is)
		wantLitmus(t, "cells", program(make([]uint64, n), []api.Instr{}), is)
	}
	skips := func(n int) []api.Instr { return slices.Repeat([]api.Instr{skip(0, num(1), 1)}, n) }
	wantLitmus(t, "10 instructions", program([]uint64{0}, skips(10)), true)
	wantLitmus(t, "11 instructions", program([]uint64{0}, skips(11)), false)
	wantLitmus(t, "10 instructions in all", program([]uint64{0}, skips(3), skips(0), skips(4), skips(3)), true)
	wantLitmus(t, "11 instructions in all", program([]uint64{0}, skips(3), skips(1), skips(4), skips(3)), false)
	wantLitmus(t, "11 instructions in all, the last one alone", program([]uint64{0}, nil, skips(10), skips(1)), false)
	wantLitmus(t, "many threads", program([]uint64{0}, make([][]api.Instr, 100000)...), false)
	wantLitmus(t, "many cells", program(make([]uint64, 100000), nil), false)
	wantLitmus(t, "no program", api.Litmus{}, false)
}

// Each field of each operation, at and beyond its bounds, where the operation has it and where it has not.
func TestFieldsOfInstructions(t *testing.T) {
	within := func(n, least, most int) bool { return n >= least && n <= most }
	fields := map[string]struct {
		set func(in *api.Instr, n int)
		ok  func(n int) bool
		ops []int // those that have it
	}{
		"Cell":    {func(in *api.Instr, n int) { in.Cell = n }, func(n int) bool { return within(n, 0, 2) }, []int{1, 2, 3, 4}},
		"Reg":     {func(in *api.Instr, n int) { in.Reg = n }, func(n int) bool { return within(n, 0, 3) }, []int{1, 3, 4, 5}},
		"New.Reg": {func(in *api.Instr, n int) { in.New.Reg = n }, func(n int) bool { return within(n, -1, 3) }, []int{2, 3, 4, 5}},
		"Old.Reg": {func(in *api.Instr, n int) { in.Old.Reg = n }, func(n int) bool { return within(n, -1, 3) }, []int{3}},
		"N":       {func(in *api.Instr, n int) { in.N = n }, func(n int) bool { return within(n, 1, 10) }, []int{5}},
	}
	for name, field := range fields {
		for op := api.InLoad; op <= api.InSkip; op++ {
			for _, n := range strange() {
				in := api.Instr{Op: op, Cell: 1, Reg: 1, New: num(1), Old: num(1), N: 1}
				field.set(&in, n)
				is := field.ok(n) || !slices.Contains(field.ops, op)
				wantLitmus(t, name, program(make([]uint64, 3), nil, []api.Instr{load(0, 0), in}), is)
			}
		}
	}
	for _, op := range strange() {
		wantLitmus(t, "Op", program([]uint64{0}, []api.Instr{{Op: op, New: num(1), Old: num(1), N: 1}}), within(op, 1, 5))
	}
}

// alone gives the thread of a program with no other one, and a call that tells its cells.
func alone(t *testing.T, cells []uint64, instrs ...api.Instr) (*sched.Thread, func() []uint64) {
	t.Helper()
	b := lay(t, program(cells, instrs))
	return b.Thread(0), func() []uint64 { o, _ := b.Outcome(); return o.Cells }
}

func TestInstructions(t *testing.T) {
	const top = math.MaxUint64
	for _, c := range []struct {
		name   string
		cells  []uint64
		instrs []api.Instr
		after  []uint64
		regs   []uint64
	}{
		{"a load", []uint64{5, 6}, []api.Instr{load(1, 3)}, []uint64{5, 6}, []uint64{0, 0, 0, 6}},
		{"a store of a number", []uint64{5, 6}, []api.Instr{store(1, num(9))}, []uint64{5, 9}, []uint64{0, 0, 0, 0}},
		{"a store of a register", []uint64{5, 6}, []api.Instr{load(0, 2), store(1, reg(2, 10))}, []uint64{5, 15}, []uint64{0, 0, 5, 0}},
		{"a store that wraps round", []uint64{5}, []api.Instr{load(0, 0), store(0, reg(0, top))}, []uint64{4}, []uint64{5, 0, 0, 0}},
		{"a swap", []uint64{5}, []api.Instr{swap(0, num(5), num(8), 1)}, []uint64{8}, []uint64{0, 1, 0, 0}},
		{"a swap that fails", []uint64{5}, []api.Instr{load(0, 1), swap(0, num(4), num(8), 1)}, []uint64{5}, []uint64{0, 0, 0, 0}},
		{"a swap with the registers as they were", []uint64{5, 0}, []api.Instr{load(0, 1), swap(0, reg(1, 0), reg(1, 2), 1)}, []uint64{7, 0}, []uint64{0, 1, 0, 0}},
		{"a swap that wraps round", []uint64{2}, []api.Instr{load(0, 0), swap(0, reg(0, 0), reg(0, top-1), 3)}, []uint64{0}, []uint64{2, 0, 0, 1}},
		{"an add", []uint64{5}, []api.Instr{add(0, num(3), 2)}, []uint64{8}, []uint64{0, 0, 5, 0}},
		{"an add that wraps round", []uint64{5}, []api.Instr{add(0, num(top), 2)}, []uint64{4}, []uint64{0, 0, 5, 0}},
		{"an add with the registers as they were", []uint64{5}, []api.Instr{load(0, 0), add(0, reg(0, 1), 0)}, []uint64{11}, []uint64{5, 0, 0, 0}},
		{"a skip", []uint64{5}, []api.Instr{load(0, 0), skip(0, num(5), 1), store(0, num(1)), add(0, num(1), 1)}, []uint64{6}, []uint64{5, 5, 0, 0}},
		{"a skip that is none", []uint64{5}, []api.Instr{load(0, 0), skip(0, num(4), 1), store(0, num(1)), add(0, num(1), 1)}, []uint64{2}, []uint64{5, 1, 0, 0}},
		{"a skip of two", []uint64{5}, []api.Instr{skip(1, num(0), 2), store(0, num(1)), store(0, num(2)), add(0, num(1), 1)}, []uint64{6}, []uint64{0, 5, 0, 0}},
		{"a skip by another register", []uint64{5}, []api.Instr{load(0, 1), load(0, 2), skip(1, reg(2, 0), 1), store(0, num(1))}, []uint64{5}, []uint64{0, 5, 5, 0}},
		{"a skip just behind the end", []uint64{5}, []api.Instr{skip(0, num(0), 2), store(0, num(1)), store(0, num(2))}, []uint64{5}, []uint64{0, 0, 0, 0}},
		{"a skip far behind the end", []uint64{5}, []api.Instr{skip(0, num(0), 10), store(0, num(1))}, []uint64{5}, []uint64{0, 0, 0, 0}},
	} {
		thread, cells := alone(t, c.cells, c.instrs...)
		steps := 1
		for ; !thread.Step(); steps++ {
			if steps > len(c.instrs) {
				t.Fatalf("P3.10: %s does not end", c.name)
			}
		}
		want(t, "P3.10: the cells of "+c.name, cells(), c.after)
		want(t, "P3.10: the registers of "+c.name, thread.Regs(), c.regs)
	}
}

func TestStepOfThread(t *testing.T) {
	thread, cells := alone(t, []uint64{1}, add(0, num(1), 0), skip(1, num(9), 3), add(0, num(1), 2))
	want(t, "P3.10: registers at first", thread.Regs(), []uint64{0, 0, 0, 0})
	want(t, "P3.10: the first step", []any{thread.Step(), thread.Regs(), cells()}, []any{false, []uint64{1, 0, 0, 0}, []uint64{2}})
	want(t, "P3.10: a skip that is none", []any{thread.Step(), cells()}, []any{false, []uint64{2}})
	for range 3 { // the last step, and two of a thread that is done
		want(t, "P3.10: the last step", []any{thread.Step(), thread.Regs(), cells()}, []any{true, []uint64{1, 0, 2, 0}, []uint64{3}})
	}
	skipping, _ := alone(t, []uint64{1}, skip(0, num(0), 1), load(0, 0))
	want(t, "P3.10: a skip to the end", skipping.Step(), true)
	want(t, "P3.10: what was skipped", skipping.Regs(), []uint64{0, 0, 0, 0})
	empty, _ := alone(t, []uint64{1})
	want(t, "P3.10: no instruction", empty.Step(), true)
}

func TestBench(t *testing.T) {
	b := lay(t, lostUpdate())
	for _, i := range []int{-1, 2, math.MinInt, math.MaxInt} {
		want(t, "P3.11: no such thread", b.Thread(i) == nil, true)
	}
	if b.Thread(0) == nil || b.Thread(0) != b.Thread(0) || b.Thread(0) == b.Thread(1) {
		t.Error("P3.11: Thread gives no thread, or not its own")
	}
	want(t, "P3.11: nothing", []any{b.Play(""), len(b.Events())}, []any{0, 0})
	want(t, "P3.11: a step of each", b.Play("\x00\x01\xff\x5f\x09"), 2)
	o, idle := b.Outcome()
	want(t, "P3.11: in the midst", []any{o, idle}, []any{api.Outcome{Cells: []uint64{0}, Regs: make([]uint64, 8)}, false})
	want(t, "P3.11: the rest", b.Play("\xa0"), 2)
	o, idle = b.Outcome()
	want(t, "P3.11: at the end", []any{o, idle}, []any{api.Outcome{Cells: []uint64{1}, Regs: make([]uint64, 8)}, true})
	want(t, "P3.11: nothing is left", b.Play("\xa0\x00\x21\xff"), 0)
	want(t, "P3.11: events", b.Events(), []api.Event{{Kind: 1}, {Kind: 1, Who: 1, Tag: 1, At: 1}, {Kind: 2, At: 3}, {Kind: 2, Who: 1, Tag: 1, At: 4}})
}

// The first state, and the places of cells and registers in an outcome.
func TestPlacesInOutcome(t *testing.T) {
	b := lay(t, program([]uint64{7, 8, 9}, []api.Instr{load(0, 3)}, []api.Instr{load(1, 0)}, nil, []api.Instr{load(2, 2), store(1, num(5))}))
	o, idle := b.Outcome()
	want(t, "P3.11: at first", []any{o.Cells, o.Regs, idle}, []any{[]uint64{7, 8, 9}, make([]uint64, 16), false})
	want(t, "P3.11: all steps, one of the empty thread among them", b.Play("\x61\xa0"), 5)
	o, idle = b.Outcome()
	want(t, "P3.11: at the end", []any{o.Cells, o.Regs, idle}, []any{[]uint64{7, 5, 9}, []uint64{0, 0, 0, 7, 8, 0, 0, 0, 0, 0, 0, 0, 0, 0, 9, 0}, true})
}

// A schedule is enough of a budget for all that a program can ask for.
func TestGreatestPrograms(t *testing.T) {
	loads := func(n int) []api.Instr { return slices.Repeat([]api.Instr{load(0, 0)}, n) }
	for _, l := range []api.Litmus{
		program([]uint64{1}, loads(10), nil, nil, nil), program([]uint64{1}, loads(3), loads(3), loads(2), loads(2)), program([]uint64{1}, loads(10)), program([]uint64{1}, nil, nil, nil, nil),
	} {
		b, steps := lay(t, l), 0
		for _, instrs := range l.Threads {
			steps += max(1, len(instrs))
		}
		want(t, "P3.11: all steps", b.Play("\xa0"), steps)
		_, idle := b.Outcome()
		want(t, "P3.11: all is done", idle, true)
	}
}

// A thread that is stepped by hand goes on, and still has its place in its queue.
func TestStepsByHand(t *testing.T) {
	b := lay(t, lostUpdate())
	b.Thread(0).Step()
	want(t, "P3.11: by hand", b.Thread(0).Step(), true)
	o, idle := b.Outcome()
	want(t, "P3.11: by hand", []any{o.Cells, idle, len(b.Events())}, []any{[]uint64{1}, false, 0})
	b.Thread(1).Step()
	want(t, "P3.11: a step of the one that is done, one of the other", b.Play("\xa0"), 2)
	o, idle = b.Outcome()
	want(t, "P3.11: at the end", []any{o.Cells, o.Regs[4], idle}, []any{[]uint64{2}, 1, true})
}

func TestBenchesHaveNothingInCommon(t *testing.T) {
	l := lostUpdate()
	one, other := lay(t, l), lay(t, l)
	one.Play("\xa0")
	o, idle := other.Outcome()
	want(t, "P3.11: the other bench", []any{o.Cells, idle, len(other.Events())}, []any{[]uint64{0}, false, 0})
}

func TestRunExamples(t *testing.T) {
	for _, c := range []struct {
		schedule string
		cell     uint64
	}{{"", 1}, {"\x80", 2}, {"\x81\x00", 2}, {"\x00\x01\x00\x01", 1}, {"\x21\x01", 2}, {"\x21\x00", 1}, {"\xff\x09", 1}, {"\x00\x81", 1}, {"\xa0\xa0", 1}, {"\x61", 1}} {
		o, e := sched.Run(lostUpdate(), c.schedule)
		want(t, "P3.12: Run of the lost update", pair(o.Cells, e), pair([]uint64{c.cell}, api.OK))
	}
}
