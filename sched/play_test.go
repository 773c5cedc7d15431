package sched_test

import (
	"math"
	"math/rand"
	"slices"
	"testing"

	"strata/api"
	"strata/sched"
)

func ones(n int) []int { return slices.Repeat([]int{1}, n) }

func TestPlayEachPick(t *testing.T) {
	for _, c := range []struct {
		name  string
		picks []api.Pick
		steps int
		order []int // whose machines were done
	}{
		{"nothing", nil, 0, nil},
		{"a step", []api.Pick{pick(1, 1, 1)}, 1, []int{1}},
		{"a step, whatever N is", []api.Pick{pick(1, 1, 0), pick(1, 0, -9), pick(1, 0, 1<<60)}, 3, []int{1, 0, 0}},
		{"a run", []api.Pick{pick(2, 2, 2)}, 2, []int{2, 2}},
		{"a run that ends early", []api.Pick{pick(2, 2, math.MaxInt), pick(2, 1, 1)}, 4, []int{2, 2, 2, 1}},
		{"runs of nothing", []api.Pick{pick(2, 2, 0), pick(2, 2, -1), pick(2, 2, math.MinInt)}, 0, nil},
		{"a finish, whatever N is", []api.Pick{pick(5, 1, 0), pick(5, 2, 77), pick(5, 1, -1)}, 3, []int{1, 2, 1}},
		{"a finish of an empty queue", []api.Pick{pick(2, 0, 2), pick(5, 0, 1)}, 2, []int{0, 0}},
		{"a round", []api.Pick{pick(4, 0, 1)}, 3, []int{0, 1, 2}},
		{"rounds, whoever Who is", []api.Pick{pick(4, 9, 3)}, 8, []int{0, 1, 2, 0, 1, 2, 1, 2}},
		{"rounds of nothing", []api.Pick{pick(4, 0, 0), pick(4, 0, -1), pick(4, 0, math.MinInt)}, 0, nil},
		{"rounds that end early", []api.Pick{pick(4, 0, math.MaxInt), pick(4, 0, 5)}, 8, []int{0, 1, 2, 0, 1, 2, 1, 2}},
		{"a drain, whatever Who and N are", []api.Pick{pick(6, -7, -7)}, 8, []int{0, 1, 2, 0, 1, 2, 1, 2}},
		{"a drain behind steps", []api.Pick{pick(1, 2, 1), pick(6, 0, 0)}, 8, []int{2, 0, 1, 2, 0, 1, 2, 1}},
		{"what asks for nothing", []api.Pick{pick(0, 0, 1), pick(3, 0, 1), pick(7, 0, 1), pick(-1, 0, 1), pick(math.MaxInt, 0, 1), pick(math.MinInt, 0, 1)}, 0, nil},
		{"no such worker", []api.Pick{pick(1, 3, 1), pick(2, -1, 5), pick(5, 3, 1), pick(1, math.MaxInt, 1), pick(5, math.MinInt, 1)}, 0, nil},
	} {
		h := loaded(t, ones(2), ones(3), ones(3))
		want(t, "P3.6: "+c.name, pair(h.Play(8, c.picks...)), pair(c.steps, api.OK))
		want(t, "P3.6: whose steps: "+c.name, order(h), c.order)
		want(t, "P3.6: steps: "+c.name, h.Steps(), c.steps)
	}
}

// A finish ends where the machine that was at the head has ended, be it in its midst or fresh.
func TestFinish(t *testing.T) {
	h := loaded(t, []int{4, 2, 5})
	h.Step(0)
	want(t, "P3.6: the rest of the first", pair(h.Play(99, pick(5, 0, 1))), pair(3, api.OK))
	want(t, "P3.6: the second", pair(h.Play(99, pick(5, 0, 1))), pair(2, api.OK))
	want(t, "P3.6: the third, cut by the budget", pair(h.Play(3, pick(5, 0, 1))), pair(3, api.ErrBudget))
	want(t, "P3.6: the third's rest, just in the budget", pair(h.Play(2, pick(5, 0, 1))), pair(2, api.OK))
	want(t, "P3.6: nothing is left", pair(h.Play(0, pick(5, 0, 1))), pair(0, api.OK))
}

// Every play with every budget: steps up to it, and an error just if another one was due.
func TestBudget(t *testing.T) {
	for _, picks := range [][]api.Pick{
		{pick(1, 0, 1), pick(1, 1, 1), pick(1, 0, 1)}, {pick(2, 1, 7), pick(1, 0, 1)}, {pick(5, 0, 1), pick(5, 1, 1)},
		{pick(4, 0, 2), pick(3, 0, 1)}, {pick(6, 0, 0), pick(6, 0, 0)}, {pick(1, 9, 1), pick(0, 0, 200)},
	} {
		whole := loaded(t, []int{2, 3}, []int{4})
		all, e := whole.Play(100, picks...)
		want(t, "P3.6: a great budget", e, api.OK)
		for budget := range all + 3 {
			h := loaded(t, []int{2, 3}, []int{4})
			steps, e := h.Play(budget, picks...)
			right := api.OK
			if budget < all {
				right = api.ErrBudget
			}
			want(t, "P3.6: a budget", pair(steps, e), pair(min(budget, all), right))
			want(t, "P3.6: steps made", h.Steps(), steps)
			events := whole.Events()
			want(t, "P3.6: the same steps", h.Events(), events[:len(h.Events())])
		}
	}
}

func TestNoBudget(t *testing.T) {
	h := loaded(t, []int{2})
	for _, budget := range []int{-1, math.MinInt} {
		want(t, "P3.6: a budget below 0", pair(h.Play(budget, pick(6, 0, 0))), pair(0, api.ErrBudget))
		want(t, "P3.6: a budget below 0 for nothing", pair(h.Play(budget)), pair(0, api.ErrBudget))
		want(t, "P3.6: a budget below 0", pair(h.Drain(budget)), pair(0, api.ErrBudget))
	}
	want(t, "P3.6: nothing is played", []any{h.Steps(), len(h.Events())}, []any{0, 0})
	want(t, "P3.6: 0 for nothing", pair(h.Play(0)), pair(0, api.OK))
	want(t, "P3.6: 0 for a step", pair(h.Play(0, pick(1, 0, 1))), pair(0, api.ErrBudget))
	want(t, "P3.6: 0 for a drain", pair(h.Drain(0)), pair(0, api.ErrBudget))
	want(t, "P3.6: no call without a step", len(h.Events()), 0)
	h.Drain(math.MaxInt)
	want(t, "P3.6: 0 for an idle harness", pair(h.Drain(0)), pair(0, api.OK))
}

// A budget is a play's own: what was made ahead of it does not count.
func TestBudgetIsOfOnePlay(t *testing.T) {
	h := loaded(t, []int{6})
	want(t, "P3.6: the first play", pair(h.Play(2, pick(2, 0, 2))), pair(2, api.OK))
	want(t, "P3.6: the second play", pair(h.Play(2, pick(2, 0, 2))), pair(2, api.OK))
	want(t, "P3.6: the drain", pair(h.Drain(2)), pair(2, api.OK))
}

func TestMachineWithoutEnd(t *testing.T) {
	h := loaded(t, []int{math.MaxInt}, []int{1})
	want(t, "P3.6: a drain", pair(h.Drain(1000)), pair(1000, api.ErrBudget))
	want(t, "P3.6: a finish", pair(h.Play(1000, pick(5, 0, 1), pick(1, 0, 1))), pair(1000, api.ErrBudget))
	want(t, "P3.6: rounds", pair(h.Play(10, pick(4, 0, math.MaxInt))), pair(10, api.ErrBudget))
	want(t, "P3.7", []int{h.Pending(0), h.Pending(1), h.Steps()}, []int{1, 0, 2010})
}

func TestDrainIsAPlay(t *testing.T) {
	for budget := -2; budget < 12; budget++ {
		one, other := loaded(t, []int{2, 3}, []int{0, 4}), loaded(t, []int{2, 3}, []int{0, 4})
		want(t, "P3.6: Drain", pair(one.Drain(budget)), pair(other.Play(budget, api.Pick{Kind: api.PickDrain})))
		want(t, "P3.6: Drain's events", one.Events(), other.Events())
	}
}

// slow is P3.4 to P3.7 word by word, for machines that are numbers of steps; due tells of each pick whose steps it asks for.
type slow struct {
	queues [][]slowPlace
	steps  int
	events []api.Event
	ended  int
}

type slowPlace struct {
	left, tag int
	called    bool
}

func (m *slow) step(who int) {
	p := &m.queues[who][0]
	if !p.called {
		m.events = append(m.events, api.Event{Kind: 1, Who: who, Tag: p.tag, At: m.steps})
	}
	p.called = true
	m.steps++
	p.left--
	if p.left <= 0 {
		m.events = append(m.events, api.Event{Kind: 2, Who: who, Tag: p.tag, At: m.steps})
		m.queues[who] = m.queues[who][1:]
		m.ended++
	}
}

func (m *slow) busy(who int) bool {
	return who >= 0 && who < len(m.queues) && len(m.queues[who]) > 0
}

func (m *slow) idle() bool {
	return !slices.ContainsFunc(m.queues, func(q []slowPlace) bool { return len(q) > 0 })
}

// turns calls step for each worker whose turn it is, until it answers false.
func (m *slow) turns(p api.Pick, step func(who int) bool) {
	switch p.Kind {
	case api.PickStep:
		step(p.Who)
	case api.PickRun:
		for i := 0; i < p.N && m.busy(p.Who); i++ {
			if !step(p.Who) {
				return
			}
		}
	case api.PickFinish:
		for ended := m.ended; m.busy(p.Who) && m.ended == ended; {
			if !step(p.Who) {
				return
			}
		}
	case api.PickRound, api.PickDrain:
		for i := 0; (i < p.N || p.Kind == api.PickDrain) && !m.idle(); i++ {
			for who := range m.queues {
				if !step(who) {
					return
				}
			}
		}
	}
}

func (m *slow) play(budget int, picks []api.Pick) (int, api.Errno) {
	if budget < 0 {
		return 0, api.ErrBudget
	}
	made, e := 0, api.OK
	for _, p := range picks {
		m.turns(p, func(who int) bool {
			if !m.busy(who) {
				return true
			}
			if made == budget {
				e = api.ErrBudget
				return false
			}
			made++
			m.step(who)
			return true
		})
		if e != api.OK {
			break
		}
	}
	return made, e
}

// Harness and model are asked the same at random; and P3.8 holds of what comes out.
func TestHarnessAgainstModel(t *testing.T) {
	source := rand.New(rand.NewSource(3))
	for range 1500 {
		workers := 1 + source.Intn(4)
		h, m := harness[*counter](t, workers), &slow{queues: make([][]slowPlace, workers)}
		handed := make([][]int, workers)
		for range source.Intn(12) {
			switch source.Intn(3) {
			case 0:
				who, tag := source.Intn(workers), source.Intn(9)-4
				for k := range source.Intn(4) {
					need := source.Intn(5)
					h.Submit(who, tag+k, &counter{need: need})
					m.queues[who] = append(m.queues[who], slowPlace{left: need, tag: tag + k})
					handed[who] = append(handed[who], tag+k)
				}
			case 1:
				who := source.Intn(workers+2) - 1
				want(t, "P3.5: Step", h.Step(who), m.busy(who))
				if m.busy(who) {
					m.step(who)
				}
			default:
				budget, picks := source.Intn(20)-1, anyPicks(source, workers)
				steps, e := m.play(budget, picks)
				want(t, "P3.6: Play", pair(h.Play(budget, picks...)), pair(steps, e))
			}
			want(t, "P3.7: Steps and Events", []any{h.Steps(), h.Events(), h.Idle()}, []any{m.steps, m.events, m.idle()})
		}
		wantOrderly(t, h, handed)
	}
}

func anyPicks(source *rand.Rand, workers int) []api.Pick {
	picks := make([]api.Pick, source.Intn(6))
	for i := range picks {
		picks[i] = pick(source.Intn(8), source.Intn(workers+2)-1, source.Intn(7)-1)
	}
	return picks
}

// wantOrderly drains a harness and looks whether P3.8 holds of its events.
func wantOrderly(t *testing.T, h *sched.Harness[*counter], handed [][]int) {
	t.Helper()
	if _, e := h.Drain(1 << 20); e != api.OK {
		t.Fatalf("P3.8: Drain: %d", e)
	}
	calls, dones := make([][]int, len(handed)), make([][]int, len(handed))
	called := make([]int, len(handed))
	last := 0
	for _, ev := range h.Events() {
		if ev.At < last {
			t.Errorf("P3.8: At falls: %v", h.Events())
		}
		last = ev.At
		if ev.Kind == api.EvCall {
			calls[ev.Who], called[ev.Who] = append(calls[ev.Who], ev.Tag), ev.At
		} else {
			dones[ev.Who] = append(dones[ev.Who], ev.Tag)
			if ev.At <= called[ev.Who] {
				t.Errorf("P3.8: done with no step: %v", h.Events())
			}
		}
		if n := len(calls[ev.Who]) - len(dones[ev.Who]); n < 0 || n > 1 {
			t.Errorf("P3.8: not in turn: %v", h.Events())
		}
	}
	want(t, "P3.8: all were called", calls, handed)
	want(t, "P3.8: all are done", dones, handed)
}
