package sched_test

import (
	"fmt"
	"math/rand"
	"slices"
	"strings"
	"testing"

	"strata/api"
	"strata/sched"
)

// told gives, of each outcome, the cells and the registers that are named (thread * 4 + register).
func told(all []api.Outcome, regs ...int) [][]uint64 {
	var words [][]uint64
	for _, o := range all {
		w := slices.Clone(o.Cells)
		for _, r := range regs {
			w = append(w, o.Regs[r])
		}
		words = append(words, w)
	}
	return words
}

func TestLitmusExamples(t *testing.T) {
	zero := num(0)
	for _, c := range []struct {
		name string
		l    api.Litmus
		regs []int
		want [][]uint64
	}{
		{"store buffering", program([]uint64{0, 0}, []api.Instr{store(0, num(1)), load(1, 0)}, []api.Instr{store(1, num(1)), load(0, 0)}), []int{0, 4}, [][]uint64{{1, 1, 0, 1}, {1, 1, 1, 0}, {1, 1, 1, 1}}},
		{"message passing", program([]uint64{0, 0}, []api.Instr{store(0, num(7)), store(1, num(1))}, []api.Instr{load(1, 0), load(0, 1)}), []int{4, 5}, [][]uint64{{7, 1, 0, 0}, {7, 1, 0, 7}, {7, 1, 1, 7}}},
		{"a lost update", lostUpdate(), []int{0, 4}, [][]uint64{{1, 0, 0}, {2, 0, 1}, {2, 1, 0}}},
		{"adding", program([]uint64{0}, []api.Instr{add(0, num(1), 0)}, []api.Instr{add(0, num(1), 0)}), []int{0, 4}, [][]uint64{{2, 0, 1}, {2, 1, 0}}},
		{"the first one wins", program([]uint64{0}, []api.Instr{swap(0, zero, num(1), 0)}, []api.Instr{swap(0, zero, num(2), 0)}), []int{0, 4}, [][]uint64{{1, 1, 0}, {2, 0, 1}}},
		{"no instruction", program([]uint64{3, 4}, nil), nil, [][]uint64{{3, 4}}},
		{"no threads' instructions", program([]uint64{3}, nil, nil, nil, nil), []int{0, 15}, [][]uint64{{3, 0, 0}}},
		{"words without a sign", program([]uint64{0}, []api.Instr{store(0, num(1<<63))}, []api.Instr{store(0, num(5))}, []api.Instr{store(0, num(1<<64-1))}), nil, [][]uint64{{5}, {1 << 63}, {1<<64 - 1}}},
		{"cells ahead of registers", program([]uint64{0, 9}, []api.Instr{load(0, 0), store(1, reg(0, 0))}, []api.Instr{store(0, num(1))}), []int{0}, [][]uint64{{1, 0, 0}, {1, 1, 1}}},
		{"ways that meet", program([]uint64{0}, []api.Instr{add(0, num(1), 0), load(0, 0), swap(0, num(99), zero, 0)}, []api.Instr{add(0, num(1), 0), load(0, 0), swap(0, num(99), zero, 0)}), []int{0, 4}, [][]uint64{{2, 0, 0}}},
	} {
		all, e := sched.Outcomes(c.l)
		want(t, "P3.13: "+c.name, pair(told(all, c.regs...), e), pair(c.want, api.OK))
		wantWitnesses(t, c.l, all)
	}
}

func wantWitnesses(t *testing.T, l api.Litmus, all []api.Outcome) {
	t.Helper()
	for _, o := range all {
		s, e := sched.Witness(l, o)
		if e != api.OK || len(s) > 64 {
			t.Errorf("P3.14: Witness(%v, %v) = %q, %d", l, o, s, e)
		}
		want(t, "P3.14: what the witness leads to", pair(sched.Run(l, s)), pair(o, api.OK))
	}
}

func TestNoWitness(t *testing.T) {
	l := lostUpdate()
	good := api.Outcome{Cells: []uint64{1}, Regs: make([]uint64, 8)}
	want(t, "P3.14: an outcome", pair(sched.Witness(l, good))[1], api.OK)
	for name, o := range map[string]api.Outcome{
		"none":             {},
		"no cells":         {Regs: good.Regs},
		"no registers":     {Cells: good.Cells},
		"a cell more":      {Cells: []uint64{1, 0}, Regs: good.Regs},
		"a register more":  {Cells: good.Cells, Regs: make([]uint64, 9)},
		"a register less":  {Cells: good.Cells, Regs: make([]uint64, 7)},
		"another cell":     {Cells: []uint64{3}, Regs: good.Regs},
		"another register": {Cells: good.Cells, Regs: []uint64{0, 0, 0, 0, 1, 0, 0, 0}},
		"the last one":     {Cells: good.Cells, Regs: []uint64{0, 0, 0, 0, 0, 0, 0, 1}},
		"many words":       {Cells: make([]uint64, 100000), Regs: make([]uint64, 100000)},
		"the first state":  {Cells: []uint64{0}, Regs: good.Regs},
		"words in between": {Cells: nil, Regs: append([]uint64{1}, good.Regs...)},
	} {
		want(t, "P3.14: "+name, pair(sched.Witness(l, o)), pair("", api.ErrOutcome))
	}
}

// sim is a litmus program in plain words: cells, then for each thread its registers and its place.
type sim struct {
	l      api.Litmus
	cells  []uint64
	regs   []uint64
	places []int
}

func newSim(l api.Litmus) sim {
	return sim{l, slices.Clone(l.Cells), make([]uint64, 4*len(l.Threads)), make([]int, len(l.Threads))}
}

func (m sim) clone() sim {
	return sim{m.l, slices.Clone(m.cells), slices.Clone(m.regs), slices.Clone(m.places)}
}

func (m sim) done(i int) bool { return m.places[i] >= len(m.l.Threads[i]) }

func (m sim) step(i int) {
	in := m.l.Threads[i][m.places[i]]
	val := func(v api.Val) uint64 {
		if v.Reg == -1 {
			return v.Imm
		}
		return v.Imm + m.regs[4*i+v.Reg]
	}
	m.places[i]++
	switch r := 4*i + in.Reg; in.Op {
	case api.InLoad:
		m.regs[r] = m.cells[in.Cell]
	case api.InStore:
		m.cells[in.Cell] = val(in.New)
	case api.InSwap:
		if m.cells[in.Cell] == val(in.Old) {
			m.cells[in.Cell], m.regs[r] = val(in.New), 1
		} else {
			m.regs[r] = 0
		}
	case api.InAdd:
		was := m.cells[in.Cell]
		m.cells[in.Cell], m.regs[r] = was+val(in.New), was
	case api.InSkip:
		if m.regs[r] == val(in.New) {
			m.places[i] += in.N
		}
	}
}

// ends goes every way to its end, and keeps what it finds there by its words.
func (m sim) ends(found map[string]api.Outcome) {
	last := true
	for i := range m.places {
		if m.done(i) {
			continue
		}
		last = false
		next := m.clone()
		next.step(i)
		next.ends(found)
	}
	if last {
		var key strings.Builder
		for _, w := range slices.Concat(m.cells, m.regs) {
			fmt.Fprintf(&key, "%016x", w)
		}
		found[key.String()] = api.Outcome{Cells: m.cells, Regs: m.regs}
	}
}

// run plays picks on a program by P3.6's words: a harness with one machine a worker.
func (m sim) run(picks []api.Pick) api.Outcome {
	gone := make([]bool, len(m.places)) // out of its queue: an empty thread needs a step for that
	step := func(i int) {
		if i >= len(gone) || gone[i] {
			return
		}
		if !m.done(i) {
			m.step(i)
		}
		gone[i] = m.done(i)
	}
	for _, p := range append(slices.Clone(picks), api.Pick{Kind: api.PickDrain}) {
		switch p.Kind {
		case api.PickStep:
			step(p.Who)
		case api.PickRun:
			for range p.N {
				step(p.Who)
			}
		case api.PickFinish:
			for range 10 {
				step(p.Who)
			}
		case api.PickRound, api.PickDrain:
			for range p.N + 10*(p.Kind-api.PickRound) {
				for i := range gone {
					step(i)
				}
			}
		}
	}
	return api.Outcome{Cells: m.cells, Regs: m.regs}
}

func anyVal(source *rand.Rand) api.Val {
	return api.Val{Reg: source.Intn(5) - 1, Imm: []uint64{0, 0, 1, 1, 2, 1<<64 - 1}[source.Intn(6)]}
}

func anyProgram(source *rand.Rand, instrs int) api.Litmus {
	l := program(make([]uint64, 1+source.Intn(4)), make([][]api.Instr, 1+source.Intn(4))...)
	for i := range l.Cells {
		l.Cells[i] = uint64(source.Intn(3))
	}
	for range source.Intn(instrs + 1) {
		i := source.Intn(len(l.Threads))
		in := api.Instr{Op: 1 + source.Intn(5), Cell: source.Intn(len(l.Cells)), Reg: source.Intn(4), New: anyVal(source), Old: anyVal(source), N: 1 + source.Intn(3)}
		l.Threads[i] = append(l.Threads[i], in)
	}
	return l
}

// Runs, outcomes and witnesses of programs at random against the model, which knows no harness and no state that was met before.
func TestProgramsAgainstModel(t *testing.T) {
	source := rand.New(rand.NewSource(4))
	for range 600 {
		l := anyProgram(source, 7)
		found := map[string]api.Outcome{}
		newSim(l).ends(found)
		var right []api.Outcome
		var keys []string
		for key := range found {
			keys = append(keys, key)
		}
		slices.Sort(keys)
		for _, key := range keys {
			right = append(right, found[key])
		}
		all, e := sched.Outcomes(l)
		want(t, fmt.Sprint("P3.13: Outcomes of ", l), pair(all, e), pair(right, api.OK))
		wantWitnesses(t, l, all[:min(len(all), 20)])
		for range 5 {
			schedule := make([]byte, source.Intn(12))
			source.Read(schedule)
			for i := range schedule {
				if source.Intn(2) == 0 {
					schedule[i] &= 0x03
				}
			}
			o, e := sched.Run(l, string(schedule))
			want(t, fmt.Sprintf("P3.12: Run(%v, %q)", l, schedule), pair(o, e), pair(newSim(l).run(sched.Decode(string(schedule))), api.OK))
		}
	}
}

// Of the greatest program every order of its steps is an outcome of its own.
func TestEveryOrderIsFound(t *testing.T) {
	adds := func(from uint64, n int) (instrs []api.Instr) {
		for i := range n {
			instrs = append(instrs, add(0, num(1<<(from+uint64(i))), i))
		}
		return instrs
	}
	l := program([]uint64{0}, adds(0, 3), adds(3, 3), adds(6, 2), adds(8, 2))
	all, e := sched.Outcomes(l)
	want(t, "P3.13: orders of 3, 3, 2 and 2 steps", pair(len(all), e), pair(25200, api.OK))
	for i := 1; i < len(all); i++ {
		if slices.Compare(all[i-1].Regs, all[i].Regs) >= 0 {
			t.Fatalf("P3.13: %v stands ahead of %v", all[i-1], all[i])
		}
	}
	wantWitnesses(t, l, []api.Outcome{all[0], all[12345], all[25199]})
}
