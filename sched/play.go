package sched

import (
	"math"

	"strata/api"
)

// play is one Play: the steps that it may still make.
type play[M Machine] struct {
	harness *Harness[M]
	left    int
}

// Play plays picks, with at most budget steps (P3.6).
func (h *Harness[M]) Play(budget int, picks ...api.Pick) (int, api.Errno) {
	if h == nil {
		return 0, api.ErrNil
	}
	if budget < 0 {
		return 0, api.ErrBudget
	}
	p := play[M]{harness: h, left: budget}
	for _, pick := range picks {
		if !p.pick(pick) {
			return budget, api.ErrBudget
		}
	}
	return budget - p.left, api.OK
}

// Drain plays rounds until all queues are empty (P3.6).
func (h *Harness[M]) Drain(budget int) (int, api.Errno) {
	return h.Play(budget, api.Pick{Kind: api.PickDrain})
}

// pick plays one pick; false: a step was due that the budget does not hold. So it is with all that it calls.
func (p *play[M]) pick(pick api.Pick) bool {
	switch pick.Kind {
	case api.PickStep:
		return p.run(pick.Who, 1)
	case api.PickRun:
		return p.run(pick.Who, pick.N)
	case api.PickFinish:
		return p.finish(pick.Who)
	case api.PickRound:
		return p.rounds(pick.N)
	case api.PickDrain:
		return p.rounds(math.MaxInt)
	}
	return true
}

func (p *play[M]) run(who, n int) bool {
	for ; n > 0 && p.harness.Pending(who) > 0; n-- {
		if !p.spend() {
			return false
		}
		p.harness.step(who)
	}
	return true
}

func (p *play[M]) finish(who int) bool {
	if p.harness.Pending(who) == 0 {
		return true
	}
	for p.spend() {
		if p.harness.step(who) {
			return true
		}
	}
	return false
}

func (p *play[M]) rounds(n int) bool {
	for ; n > 0 && !p.harness.Idle(); n-- {
		for who := range p.harness.queues {
			if !p.run(who, 1) {
				return false
			}
		}
	}
	return true
}

// spend takes a step off the budget, if it holds one.
func (p *play[M]) spend() bool {
	if p.left == 0 {
		return false
	}
	p.left--
	return true
}
