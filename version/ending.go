package version

import (
	"strata/api"
	"strata/bits"
)

// loadEnd is (E).
func (s *sight) loadEnd() {
	word, e := s.base.Cells.Load(s.slot, api.CellEnd)
	if e != api.OK {
		s.finish(e)
		return
	}
	switch kind, number := bits.Split(word); {
	case kind == api.WInf, kind == api.WTime && number > s.at:
		s.alive()
	case kind == api.WTime, kind == api.WTxn && s.own(number):
		s.pass()
	case kind == api.WTxn:
		s.other = int(number)
		s.next = s.askTaker
	default:
		s.finish(api.ErrRange)
	}
}

// askTaker asks for the state of the one that took the version; of a committed one its end is needed too.
func (s *sight) askTaker() {
	state, e := s.base.Tx.State(s.other)
	s.state = state
	switch {
	case e != api.OK:
		s.finish(e)
	case state == api.TxCommitted:
		s.next = s.askTakerEnd
	default:
		s.weighEnd(0)
	}
}

func (s *sight) askTakerEnd() {
	end, e := s.base.Tx.End(s.other)
	if e != api.OK {
		s.finish(e)
		return
	}
	s.weighEnd(end)
}

// weighEnd goes on as the table of the end word says.
func (s *sight) weighEnd(end uint64) {
	switch JudgeEnd(false, s.state, end, s.at) {
	case api.SayYes:
		s.alive()
	case api.SayAsk:
		s.drawEnd(s.takerDrawn)
	case api.SayAgain:
		s.next = s.loadEnd
	default:
		s.pass()
	}
}

// takerDrawn goes on by the taker's end. Nobody takes it as if the taker had committed: it can't wait for its fate.
func (s *sight) takerDrawn() {
	switch {
	case JudgeEnd(false, s.state, s.draw.End(), s.at) == api.SayYes:
		s.alive()
	case s.id == nobody:
		s.pass()
	default:
		s.dependOn(s.other, s.passedOver)
	}
}

func (s *sight) dependOn(other int, then func()) {
	s.depend = s.base.Tx.Depend(s.id, other)
	s.run(s.depend, then)
}

// passedOver is behind a dependency on the taker: the version is ended on its word.
func (s *sight) passedOver() {
	switch s.depend.Came() {
	case api.DepAborted:
		s.alive()
	case api.DepGone:
		s.next = s.loadEnd
	case api.DepFull:
		s.finish(api.ErrDeps)
	default:
		s.pass()
	}
}

// alive is at a version that has not ended: whether it has begun may still hang on its maker.
func (s *sight) alive() {
	if s.perhaps == 0 {
		s.end(api.BarSeen)
		return
	}
	s.dependOn(s.perhaps, s.trusted)
}

// trusted is behind a dependency on the maker: the version has begun on its word.
func (s *sight) trusted() {
	switch s.depend.Came() {
	case api.DepTaken, api.DepCommitted:
		s.end(api.BarSeen)
	case api.DepGone:
		s.perhaps = 0
		s.next = s.loadBegin
	case api.DepFull:
		s.finish(api.ErrDeps)
	default:
		s.pass()
	}
}
