package engine

import (
	"strata/api"
	"strata/sweep"
)

// pass is a round over the bucket at the session's hand.
func (s *session) pass() *sweep.Pass { return s.engine.sweeper.Pass(s.hand) }

// turnHand comes to the next bucket.
func (s *session) turnHand() { s.hand = (s.hand + 1) % s.engine.buckets }

// collect goes over as many buckets as it was asked to; it stays at one that is refused (P10.12).
func (s *session) collect() {
	s.left = s.asked.Count
	s.collectNext()
}

func (s *session) collectNext() {
	pass := s.pass()
	s.try(pass, func() {
		s.answer.Count += pass.Unlinked()
		s.turnHand()
		s.collectOn()
	}, func(e api.Errno) {
		s.answer.Count += pass.Unlinked()
		s.finish(e)
	})
}

func (s *session) collectOn() {
	if s.left--; s.left == 0 {
		s.finish(api.OK)
		return
	}
	s.collectNext()
}

// sweepBehind goes over a few buckets behind a transaction, whatever comes of it (P10.13).
func (s *session) sweepBehind() {
	s.left = s.engine.coop
	s.sweepNext()
}

func (s *session) sweepNext() {
	if s.left == 0 {
		s.depart()
		return
	}
	s.anyway(s.pass(), func() {
		s.left--
		s.turnHand()
		s.sweepNext()
	})
}
