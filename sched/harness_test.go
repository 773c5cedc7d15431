package sched_test

import (
	"math"
	"runtime"
	"slices"
	"testing"
	"weak"

	"strata/api"
	"strata/sched"
)

func TestNew(t *testing.T) {
	for _, n := range strange() {
		h, e := sched.New[*counter](n)
		if n < 1 || n > 16 {
			want(t, "P3.3: New of a wrong number", pair(h == nil, e), pair(true, api.ErrWorkers))
			continue
		}
		want(t, "P3.3: New", pair(h != nil, e), pair(true, api.OK))
		want(t, "P3.3: a new harness", []any{h.Idle(), h.Steps(), len(h.Events()), len(h.Take())}, []any{true, 0, 0, 0})
		for _, who := range strange() {
			want(t, "P3.3: a new queue", h.Pending(who), 0)
			right := api.OK
			if who < 0 || who >= n {
				right = api.ErrWorker
			}
			want(t, "P3.3: the workers", h.Submit(who, 0), right)
		}
	}
}

func TestSubmit(t *testing.T) {
	h := harness[*counter](t, 2)
	want(t, "P3.4: no such worker, and too many", h.Submit(2, 0, make([]*counter, 65)...), api.ErrWorker)
	want(t, "P3.4: no such worker", h.Submit(-1, 0, counters(1)...), api.ErrWorker)
	want(t, "P3.4: no such worker, no machines", h.Submit(2, 0), api.ErrWorker)
	want(t, "P3.4: 65", h.Submit(0, 0, make([]*counter, 65)...), api.ErrQueue)
	want(t, "P3.4: none is taken", []any{h.Pending(0), h.Idle()}, []any{0, true})
	want(t, "P3.4: 64", h.Submit(0, 0, counters(make([]int, 64)...)...), api.OK)
	want(t, "P3.4: pending", []int{h.Pending(0), h.Pending(1), h.Pending(2)}, []int{64, 0, 0})
	want(t, "P3.4: one above", h.Submit(0, 0, counters(1)...), api.ErrQueue)
	want(t, "P3.4: none behind a full queue", h.Submit(0, 0), api.OK)
	want(t, "P3.4: the other queue", h.Submit(1, 0, counters(1, 1)...), api.OK)
	h.Step(0)
	want(t, "P3.4: two for one place", h.Submit(0, 0, counters(1, 1)...), api.ErrQueue)
	want(t, "P3.4: one for one place", h.Submit(0, 0, counters(1)...), api.OK)
	want(t, "P3.4: pending", []int{h.Pending(0), h.Pending(1)}, []int{64, 2})
}

// The one that is being worked at counts for its queue's length.
func TestSubmitBesideOneAtWork(t *testing.T) {
	h := loaded(t, []int{3})
	h.Step(0)
	want(t, "P3.4: 64 beside one at work", h.Submit(0, 0, make([]*counter, 64)...), api.ErrQueue)
	want(t, "P3.4: 63 beside one at work", h.Submit(0, 0, counters(make([]int, 63)...)...), api.OK)
}

func TestTags(t *testing.T) {
	h := harness[*counter](t, 1)
	h.Submit(0, math.MaxInt, counters(1, 1, 1)...)
	h.Submit(0, -1, counters(1, 1)...)
	h.Submit(0, -1, counters(1)...)
	h.Drain(100)
	var tags []int
	for _, ev := range h.Events() {
		if ev.Kind == api.EvDone {
			tags = append(tags, ev.Tag)
		}
	}
	want(t, "P3.4: tags", tags, []int{math.MaxInt, math.MinInt, math.MinInt + 1, -1, 0, -1})
}

func TestSubmittedListIsNotKept(t *testing.T) {
	h := harness[*counter](t, 1)
	list := append(counters(1, 2), &counter{need: 9})
	given := slices.Clone(list[:2])
	h.Submit(0, 0, list[:2]...)
	h.Submit(0, 0, counters(1)...)
	want(t, "P3.4: the room behind the list", list[2].need, 9)
	clear(list)
	want(t, "P3.4: the list was kept", pair(h.Drain(100)), pair(4, api.OK))
	if got := h.Take(); got[0] != given[0] || got[1] != given[1] {
		t.Errorf("P3.4: other machines were played: %v", got)
	}
}

func TestStep(t *testing.T) {
	h := loaded(t, []int{2, 0}, []int{1})
	for _, who := range []int{-1, 2, math.MinInt, math.MaxInt} {
		want(t, "P3.5: no such worker", h.Step(who), false)
	}
	want(t, "P3.5: nothing changes", []any{h.Steps(), len(h.Events())}, []any{0, 0})
	want(t, "P3.5: a step", h.Step(0), true)
	want(t, "P3.5: a step", h.Step(1), true)
	want(t, "P3.5: an empty queue", h.Step(1), false)
	want(t, "P3.5: steps", []int{h.Steps(), h.Pending(0), h.Pending(1)}, []int{2, 2, 0})
	want(t, "P3.5: a step", h.Step(0), true)
	want(t, "P3.5: the next machine", h.Step(0), true)
	want(t, "P3.5: an empty queue", h.Step(0), false)
	want(t, "P3.5: events", h.Events(), []api.Event{
		{Kind: api.EvCall, Who: 0, Tag: 0, At: 0}, {Kind: api.EvCall, Who: 1, Tag: 100, At: 1}, {Kind: api.EvDone, Who: 1, Tag: 100, At: 2},
		{Kind: api.EvDone, Who: 0, Tag: 0, At: 3}, {Kind: api.EvCall, Who: 0, Tag: 1, At: 3}, {Kind: api.EvDone, Who: 0, Tag: 1, At: 4},
	})
	want(t, "P3.5: steps", []any{h.Steps(), h.Idle()}, []any{4, true})
}

// caller counts how often its Step is called; the second time it is done.
type caller struct{ calls int }

func (c *caller) Step() bool { c.calls++; return c.calls == 2 }

func TestStepIsCalledOnce(t *testing.T) {
	h := harness[*caller](t, 1)
	c := &caller{}
	h.Submit(0, 0, c)
	for _, right := range []int{1, 2, 2} {
		h.Step(0)
		want(t, "P3.5: calls of a machine's Step", c.calls, right)
	}
}

// The same machine in several places is called, done and taken once for each.
func TestOneMachineInSeveralPlaces(t *testing.T) {
	h := harness[*counter](t, 2)
	c := &counter{need: 3}
	h.Submit(0, 1, c, c)
	h.Submit(1, 7, c)
	want(t, "P3.6: finish", pair(h.Play(9, pick(api.PickFinish, 0, 1))), pair(3, api.OK))
	want(t, "P3.7: pending", []int{h.Pending(0), h.Pending(1)}, []int{1, 1})
	want(t, "P3.6: drain", pair(h.Drain(9)), pair(2, api.OK))
	want(t, "P3.5: events", h.Events(), []api.Event{{Kind: 1, Tag: 1}, {Kind: 2, Tag: 1, At: 3}, {Kind: 1, Tag: 2, At: 3}, {Kind: 2, Tag: 2, At: 4}, {Kind: 1, Who: 1, Tag: 7, At: 4}, {Kind: 2, Who: 1, Tag: 7, At: 5}})
	if got := h.Take(); len(got) != 3 || got[0] != c || got[1] != c || got[2] != c {
		t.Errorf("P3.7: Take = %v", got)
	}
}

// listed is a machine that can't be compared.
type listed []int

func (l listed) Step() bool { l[0]--; return l[0] <= 0 }

func TestMachinesOfAnyType(t *testing.T) {
	h := harness[listed](t, 1)
	h.Submit(0, 0, listed{2}, listed{1})
	want(t, "P3.6: machines that can't be compared", pair(h.Drain(9)), pair(3, api.OK))
	want(t, "P3.7: Take", h.Take(), []listed{{0}, {0}})
	m := harness[sched.Machine](t, 2)
	m.Submit(0, 0, listed{2}, &counter{need: 2})
	m.Submit(1, 0, &counter{need: 1}, lay(t, lostUpdate()).Thread(0))
	want(t, "P3.6: machines of several types", pair(m.Drain(9)), pair(7, api.OK))
	want(t, "P3.7: Take", len(m.Take()), 4)
}

func TestTake(t *testing.T) {
	h := harness[*counter](t, 2)
	cs := counters(2, 1, 1)
	h.Submit(0, 0, cs[0], cs[2])
	h.Submit(1, 0, cs[1])
	want(t, "P3.7: nothing has ended", len(h.Take()), 0)
	h.Play(3, pick(api.PickRound, 0, 2))
	if got := h.Take(); !slices.Equal(got, []*counter{cs[1], cs[0]}) {
		t.Errorf("P3.7: Take = %v, want them in the order in which they ended", got)
	}
	want(t, "P3.7: they are forgotten", len(h.Take()), 0)
	h.Drain(9)
	if got := h.Take(); !slices.Equal(got, cs[2:]) {
		t.Errorf("P3.7: Take = %v, want what ended since", got)
	}
	want(t, "P3.7: Take forgets no event", len(h.Events()), 6)
}

// What has ended and was taken is not held any more.
func TestTakenMachinesAreLetGo(t *testing.T) {
	h := harness[*counter](t, 1)
	c := &counter{need: 1}
	held := weak.Make(c)
	h.Submit(0, 0, c, &counter{need: 5})
	h.Play(2, pick(api.PickRun, 0, 2))
	h.Take()
	c = nil
	runtime.GC()
	if held.Value() != nil {
		t.Error("P3.7: a machine that was taken is still held")
	}
	runtime.KeepAlive(h)
}

func TestPendingAndIdle(t *testing.T) {
	h := loaded(t, []int{2, 1}, nil, []int{1})
	ask := func() []any { return []any{h.Pending(0), h.Pending(1), h.Pending(2), h.Idle(), h.Steps()} }
	want(t, "P3.7", ask(), []any{2, 0, 1, false, 0})
	h.Step(0)
	want(t, "P3.7: the one at work is pending", ask(), []any{2, 0, 1, false, 1})
	h.Step(0)
	h.Step(0)
	want(t, "P3.7: the last queue counts for Idle", ask(), []any{0, 0, 1, false, 3})
	h.Step(2)
	want(t, "P3.7", ask(), []any{0, 0, 0, true, 4})
	for _, who := range []int{-1, 3, math.MinInt, math.MaxInt} {
		want(t, "P3.7: Pending of no worker", h.Pending(who), 0)
	}
	h.Submit(1, 0, counters(1)...)
	want(t, "P3.7: no longer idle", ask(), []any{0, 1, 0, false, 4})
}
