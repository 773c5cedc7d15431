package sched

import (
	"slices"

	"strata/api"
)

// Machine goes on by steps, each with at most one access to shared memory. Step answers whether the machine is done.
type Machine interface{ Step() bool }

// Harness has workers, each with a queue of machines (P3.3 to P3.8).
type Harness[M Machine] struct {
	queues [][]place[M] // one a worker
	steps  int
	events []api.Event
	ended  []M
}

// place is one of a queue. The machine in it may stand in others too, so whether it was called is told by the place.
type place[M Machine] struct {
	machine M
	tag     int
	called  bool
}

// New makes a harness (P3.3).
func New[M Machine](workers int) (*Harness[M], api.Errno) {
	if workers < 1 || workers > api.MaxWorkers {
		return nil, api.ErrWorkers
	}
	return &Harness[M]{queues: make([][]place[M], workers)}, api.OK
}

// Submit puts machines at the end of a worker's queue (P3.4).
func (h *Harness[M]) Submit(who, tag int, ms ...M) api.Errno {
	if h == nil {
		return api.ErrNil
	}
	if !h.has(who) {
		return api.ErrWorker
	}
	if len(ms) > api.MaxQueue-len(h.queues[who]) {
		return api.ErrQueue
	}
	for k, m := range ms {
		h.queues[who] = append(h.queues[who], place[M]{machine: m, tag: tag + k})
	}
	return api.OK
}

// Step makes one step of the machine at the head of a worker's queue (P3.5).
func (h *Harness[M]) Step(who int) bool {
	if h.Pending(who) == 0 {
		return false
	}
	h.step(who)
	return true
}

// step makes a step of a worker whose queue is not empty, and tells whether its machine was done with it.
func (h *Harness[M]) step(who int) bool {
	head := &h.queues[who][0]
	if !head.called {
		head.called = true
		h.record(api.EvCall, who)
	}
	h.steps++
	if !head.machine.Step() {
		return false
	}
	h.record(api.EvDone, who)
	h.ended = append(h.ended, head.machine)
	h.queues[who] = slices.Delete(h.queues[who], 0, 1)
	return true
}

// record notes an event of the machine at the head of a worker's queue.
func (h *Harness[M]) record(kind, who int) {
	h.events = append(h.events, api.Event{Kind: kind, Who: who, Tag: h.queues[who][0].tag, At: h.steps})
}

// Pending tells how many machines stand in a worker's queue (P3.7).
func (h *Harness[M]) Pending(who int) int {
	if h == nil || !h.has(who) {
		return 0
	}
	return len(h.queues[who])
}

// Idle tells whether all queues are empty (P3.7).
func (h *Harness[M]) Idle() bool {
	if h == nil {
		return false
	}
	for _, queue := range h.queues {
		if len(queue) > 0 {
			return false
		}
	}
	return true
}

// Steps tells how many steps were made (P3.7).
func (h *Harness[M]) Steps() int {
	if h == nil {
		return 0
	}
	return h.steps
}

// Events tells all events since New (P3.7).
func (h *Harness[M]) Events() []api.Event {
	if h == nil {
		return nil
	}
	return slices.Clone(h.events)
}

// Take gives the machines that have ended since the last Take (P3.7).
func (h *Harness[M]) Take() []M {
	if h == nil {
		return nil
	}
	ended := h.ended
	h.ended = nil
	return ended
}

func (h *Harness[M]) has(who int) bool { return who >= 0 && who < len(h.queues) }
