package sched_test

import (
	"fmt"
	"math"
	"slices"
	"testing"

	"strata/api"
	"strata/sched"
)

// want holds what was answered against what should have been.
func want(t *testing.T, what string, got, right any) {
	t.Helper()
	if fmt.Sprint(got) != fmt.Sprint(right) {
		t.Errorf("%s: %v, want %v", what, got, right)
	}
}

// pair takes the two answers of a call as one.
func pair[V any](v V, e api.Errno) [2]any { return [2]any{v, e} }

// strange are numbers at and beyond all bounds.
func strange() []int {
	return []int{math.MinInt, math.MinInt32, -257, -33, -2, -1, 0, 1, 2, 3, 4, 5, 10, 11, 15, 16, 17, 31, 32, 33, 63, 64, 65, 159, 160, 161, 255, 256, 257, 1 << 31, 1 << 32, math.MaxInt}
}

// counter is a machine that is done with its step number need; of one with need 0 or less the first step is the last.
type counter struct{ need, made int }

func (c *counter) Step() bool {
	if c.made < c.need {
		c.made++
	}
	return c.made >= c.need
}

func counters(needs ...int) []*counter {
	var cs []*counter
	for _, n := range needs {
		cs = append(cs, &counter{need: n})
	}
	return cs
}

func harness[M sched.Machine](t *testing.T, workers int) *sched.Harness[M] {
	t.Helper()
	h, e := sched.New[M](workers)
	if h == nil || e != api.OK {
		t.Fatalf("P3.3: New(%d) = %v, %d", workers, h, e)
	}
	return h
}

// loaded gives a harness whose worker i has machines of needs[i] steps each, with the tags 100i, 100i + 1, ..
func loaded(t *testing.T, needs ...[]int) *sched.Harness[*counter] {
	t.Helper()
	h := harness[*counter](t, len(needs))
	for who, n := range needs {
		if e := h.Submit(who, 100*who, counters(n...)...); e != api.OK {
			t.Fatalf("P3.4: Submit(%d, ..): %d", who, e)
		}
	}
	return h
}

// order tells whose steps were made, in their order, as far as machines of one step each tell it.
func order(h *sched.Harness[*counter]) []int {
	var who []int
	for _, ev := range h.Events() {
		if ev.Kind == api.EvDone {
			who = append(who, ev.Who)
		}
	}
	return who
}

func pick(kind, who, n int) api.Pick { return api.Pick{Kind: kind, Who: who, N: n} }

func num(v uint64) api.Val { return api.Val{Reg: -1, Imm: v} }

func reg(r int, v uint64) api.Val { return api.Val{Reg: r, Imm: v} }

func load(c, r int) api.Instr { return api.Instr{Op: api.InLoad, Cell: c, Reg: r} }

func store(c int, v api.Val) api.Instr { return api.Instr{Op: api.InStore, Cell: c, New: v} }

func swap(c int, old, fresh api.Val, r int) api.Instr {
	return api.Instr{Op: api.InSwap, Cell: c, Reg: r, Old: old, New: fresh}
}

func add(c int, v api.Val, r int) api.Instr {
	return api.Instr{Op: api.InAdd, Cell: c, Reg: r, New: v}
}

func skip(r int, v api.Val, n int) api.Instr {
	return api.Instr{Op: api.InSkip, Reg: r, New: v, N: n}
}

func program(cells []uint64, threads ...[]api.Instr) api.Litmus {
	return api.Litmus{Cells: cells, Threads: threads}
}

func lay(t *testing.T, l api.Litmus) *sched.Bench {
	t.Helper()
	b, e := sched.Lay(l)
	if b == nil || e != api.OK {
		t.Fatalf("P3.11: Lay(%v) = %v, %d", l, b, e)
	}
	return b
}

// lostUpdate is two threads that read a cell and write one more.
func lostUpdate() api.Litmus {
	bump := []api.Instr{load(0, 0), store(0, reg(0, 1))}
	return program([]uint64{0}, bump, slices.Clone(bump))
}

// scribble writes into a list and the room behind it.
func scribble[T any](l []T, v T) {
	l = l[:cap(l)]
	for i := range l {
		l[i] = v
	}
}
