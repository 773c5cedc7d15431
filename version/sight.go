package version

import (
	"strata/api"
	"strata/bits"
	"strata/txtab"
)

// sight is what See and Bar share: it looks at a version's two words, and at the transactions in them (P7.5).
type sight struct {
	course
	id, slot int
	at       uint64
	later    func() // how it ends at a version that begins above at, or may do so
	other    int    // the transaction in the word that was loaded last
	state    int    // its state
	perhaps  int    // it has begun if this one commits; 0: it has begun
	draw     *txtab.Draw
	depend   *txtab.Depend
	verdict  int // one of api's Bars, when it is done with OK
}

func (s *sight) prepare(b *Base, id, slot int, at uint64, later func()) {
	s.base, s.id, s.slot, s.at, s.later = b, id, slot, at, later
	s.next = s.begin
}

func (s *sight) begin() {
	if !s.base.knowsReader(s.id) {
		s.finish(api.ErrTx)
		return
	}
	s.loadBegin()
}

// own tells whether a transaction's word is the reader's.
func (s *sight) own(number uint64) bool { return s.id != nobody && number == uint64(s.id) }

// end is the end with a verdict.
func (s *sight) end(verdict int) {
	s.verdict = verdict
	s.finish(api.OK)
}

func (s *sight) pass() { s.end(api.BarNone) }
func (s *sight) busy() { s.end(api.BarBusy) }

// loadBegin is (B).
func (s *sight) loadBegin() {
	word, e := s.base.Cells.Load(s.slot, api.CellBegin)
	if e != api.OK {
		s.finish(e)
		return
	}
	switch kind, number := bits.Split(word); {
	case kind == api.WInf:
		s.pass()
	case kind == api.WTime && number > s.at:
		s.later()
	case kind == api.WTime, kind == api.WTxn && s.own(number):
		s.next = s.loadEnd
	case kind == api.WTxn:
		s.other = int(number)
		s.next = s.askMaker
	default:
		s.finish(api.ErrRange)
	}
}

// askMaker asks for the state of the one that made the version; of a committed one its end is needed too.
func (s *sight) askMaker() {
	state, e := s.base.Tx.State(s.other)
	s.state = state
	switch {
	case e != api.OK:
		s.finish(e)
	case state == api.TxCommitted:
		s.next = s.askMakerEnd
	default:
		s.weighBegin(0)
	}
}

func (s *sight) askMakerEnd() {
	end, e := s.base.Tx.End(s.other)
	if e != api.OK {
		s.finish(e)
		return
	}
	s.weighBegin(end)
}

// weighBegin goes on as the table of the begin word says.
func (s *sight) weighBegin(end uint64) {
	switch JudgeBegin(false, s.state, end, s.at) {
	case api.SayYes:
		s.next = s.loadEnd
	case api.SayAsk:
		s.drawEnd(s.makerDrawn)
	case api.SayAgain:
		s.next = s.loadBegin
	default:
		s.refuse()
	}
}

// refuse tells a maker that may still commit above at, or has done so, from one that never will.
func (s *sight) refuse() {
	if s.state == api.TxActive || s.state == api.TxCommitted {
		s.later()
		return
	}
	s.pass()
}

// drawEnd draws the other one's end, if nobody has: whoever needs it does not wait.
func (s *sight) drawEnd(then func()) {
	s.draw = s.base.Tx.Draw(s.other)
	s.run(s.draw, then)
}

// makerDrawn goes on by the maker's end. Nobody can't wait for the maker's fate, and so does not trust it.
func (s *sight) makerDrawn() {
	if s.id == nobody || JudgeBegin(false, s.state, s.draw.End(), s.at) == api.SayNo {
		s.later()
		return
	}
	s.perhaps = s.other
	s.next = s.loadEnd
}
