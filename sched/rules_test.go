package sched_test

import (
	"slices"
	"strings"
	"testing"

	"strata/api"
	"strata/sched"
)

func TestNoObjects(t *testing.T) {
	refused, _ := sched.New[*counter](0)
	for name, h := range map[string]*sched.Harness[*counter]{"nil": nil, "refused": refused} {
		for _, n := range strange() {
			want(t, "P3.3: Submit, "+name, h.Submit(n, n), api.ErrNil)
			want(t, "P3.3: Submit of many, "+name, h.Submit(n, n, make([]*counter, 65)...), api.ErrNil)
			want(t, "P3.3: Step, "+name, h.Step(n), false)
			want(t, "P3.3: Play, "+name, pair(h.Play(n, pick(n, n, n))), pair(0, api.ErrNil))
			want(t, "P3.3: Drain, "+name, pair(h.Drain(n)), pair(0, api.ErrNil))
			want(t, "P3.3: Pending, "+name, h.Pending(n), 0)
		}
		want(t, "P3.3: Idle and Steps, "+name, []any{h.Idle(), h.Steps()}, []any{false, 0})
		want(t, "P3.3: lists, "+name, len(h.Events())+len(h.Take()), 0)
	}
	noBench, _ := sched.Lay(api.Litmus{})
	for name, b := range map[string]*sched.Bench{"nil": nil, "refused": noBench} {
		for _, n := range strange() {
			want(t, "P3.3: Thread, "+name, b.Thread(n) == nil, true)
		}
		o, idle := b.Outcome()
		want(t, "P3.3: a bench, "+name, []any{b.Play("\x00\xa0"), len(o.Cells), len(o.Regs), idle, len(b.Events())}, []any{0, 0, 0, false, 0})
		want(t, "P3.3: a thread, "+name, []any{b.Thread(0).Step(), len(b.Thread(0).Regs())}, []any{true, 0})
	}
}

func TestNoCallPanics(t *testing.T) {
	texts := []string{"", "\x20", "\xff", strings.Repeat("\x3f", 70001), strings.Repeat("\x7f\x9f\xa0\xff", 5000)}
	for _, s := range texts {
		sched.Decode(s)
		sched.Run(lostUpdate(), s)
		lay(t, lostUpdate()).Play(s)
	}
	for _, a := range strange() {
		for _, b := range strange() {
			h := loaded(t, []int{2, 1}, nil, []int{3})
			h.Step(a)
			h.Submit(a, b, counters(1, 1)...)
			for kind := -1; kind < 8; kind++ {
				sched.Encode(pick(kind, a, b), pick(a, b, kind))
				h.Play(a, pick(kind, a, b), pick(kind, b, a), pick(a, b, kind))
				h.Play(b, pick(kind, a, b))
			}
			h.Drain(a)
			h.Pending(b)
			l := api.Litmus{Cells: []uint64{1}, Threads: [][]api.Instr{{{Op: 1 + (a & 3), Cell: a, Reg: b, New: reg(a, 1), Old: reg(b, 1), N: a}}}}
			sched.Run(l, "")
			sched.Outcomes(l)
			sched.Witness(l, api.Outcome{Cells: make([]uint64, a&7), Regs: make([]uint64, b&7)})
		}
	}
	for _, l := range []api.Litmus{{}, {Cells: []uint64{}, Threads: [][]api.Instr{}}, {Cells: []uint64{1}, Threads: [][]api.Instr{nil, {}}}} {
		sched.Run(l, "\xa0")
		sched.Outcomes(l)
		sched.Witness(l, api.Outcome{})
	}
}

// What is handed in keeps its elements and the room behind them.
func TestArgumentsAreNotChanged(t *testing.T) {
	picks := []api.Pick{pick(1, 0, 1), pick(2, 1, 3), pick(4, 0, 9), pick(7, 7, 7)}
	kept := slices.Clone(picks)
	sched.Encode(picks[:3]...)
	loaded(t, []int{9}, []int{9}).Play(99, picks[:3]...)
	want(t, "P0.1: picks were changed", picks, kept)
	cells := []uint64{1, 2, 77}
	threads := [][]api.Instr{{load(0, 0), store(1, reg(0, 4)), load(9, 9)}, {add(1, num(3), 1)}, {load(8, 8)}}
	l := api.Litmus{Cells: cells[:2], Threads: append([][]api.Instr{threads[0][:2]}, threads[1:2]...)}
	o := api.Outcome{Cells: []uint64{1, 5, 9}[:2], Regs: make([]uint64, 8, 9)}
	before, outcome := []any{slices.Clone(cells), clone(threads)}, []any{slices.Clone(o.Cells), slices.Clone(o.Regs)}
	lay(t, l).Play("\xa0")
	sched.Run(l, "\xa0")
	sched.Outcomes(l)
	sched.Witness(l, o)
	want(t, "P0.1: a program was changed", []any{cells, threads}, before)
	want(t, "P0.1: an outcome was changed", []any{o.Cells, o.Regs}, outcome)
}

func clone(threads [][]api.Instr) [][]api.Instr {
	var copies [][]api.Instr
	for _, instrs := range threads {
		copies = append(copies, slices.Clone(instrs))
	}
	return copies
}

func TestProgramsAreNotKept(t *testing.T) {
	l := lostUpdate()
	b := lay(t, l)
	l.Cells[0] = 40
	scribble(l.Threads[0], store(0, num(50)))
	scribble(l.Threads, nil)
	b.Play("\xa0")
	o, _ := b.Outcome()
	want(t, "P3.11: the program was kept", o, api.Outcome{Cells: []uint64{1}, Regs: make([]uint64, 8)})
}

// Nothing that is written into an answer, or behind it, is seen in another one or in the object.
func TestAnswersAreNewMemory(t *testing.T) {
	right := []api.Pick{pick(1, 0, 1), pick(1, 1, 1), pick(1, 2, 1)}
	picks := sched.Decode("\x00\x01\x02")
	scribble(sched.Decode("\x00\x01\x02"), pick(9, 9, 9))
	want(t, "P0.1: Decode", []any{picks, sched.Decode("\x00\x01\x02")}, []any{right, right})

	h := loaded(t, []int{1, 1, 1}, []int{1})
	h.Play(3, pick(2, 0, 2), pick(1, 1, 1))
	events := h.Events()
	scribble(h.Events(), api.Event{Tag: 99})
	scribble(h.Take(), nil)
	h.Drain(9)
	want(t, "P3.7: Events", h.Events()[:len(events)], events)
	if got := h.Take(); len(got) != 1 || got[0] == nil {
		t.Errorf("P3.7: Take = %v", got)
	}
	scribble(h.Take(), nil)

	b := lay(t, lostUpdate())
	b.Play("\x60")
	first, _ := b.Outcome()
	second, _ := b.Outcome()
	scribble(first.Cells, 99)
	scribble(first.Regs, 99)
	scribble(b.Thread(0).Regs(), 99)
	scribble(b.Events(), api.Event{Tag: 99})
	third, _ := b.Outcome()
	want(t, "P3.11: Outcome", []any{second, third}, []any{api.Outcome{Cells: []uint64{0}, Regs: make([]uint64, 8)}, second})
	want(t, "P3.10: Regs", b.Thread(0).Regs(), make([]uint64, 4))
	want(t, "P3.11: Events", b.Events()[0].Tag, 0)
}

// No two lists of all outcomes have a word, or the room behind one, in common.
func TestOutcomesShareNothing(t *testing.T) {
	l := program([]uint64{0, 0, 0}, []api.Instr{add(0, num(1), 0), add(1, num(1), 1)}, []api.Instr{add(0, num(1), 2), add(1, num(1), 3)}, []api.Instr{load(0, 0)})
	right, _ := sched.Outcomes(l)
	all, _ := sched.Outcomes(l)
	for i := range all {
		scribble(all[i].Cells, 99)
		for k := range all {
			if k > i {
				want(t, "P3.13: cells that are shared", all[k], right[k])
			}
		}
		want(t, "P3.13: registers that the cells share", all[i].Regs, right[i].Regs)
		scribble(all[i].Regs, 99)
	}
	again, _ := sched.Outcomes(l)
	want(t, "P3.13: outcomes again", again, right)
}
