package engine

import (
	"strata/api"
	"strata/valid"
)

// enter is the call begin: a record, then its begin timestamp (P10.7).
func (s *session) enter() { s.try(&single{reach: s.openRecord}, s.draw, s.makeRoom) }

func (s *session) openRecord() (e api.Errno) {
	s.record, e = s.engine.base.Tx.Open(api.TxInfo{Session: s.number, Iso: s.asked.Iso})
	return e
}

// makeRoom frees the records that nobody can hold any more, if it is for them that none was free.
func (s *session) makeRoom(e api.Errno) {
	if e != api.ErrTxFull {
		s.finish(e)
		return
	}
	floor := s.engine.base.Tx.Floor()
	s.try(floor, func() {
		s.floor = floor.Floor()
		s.freeNext()
	}, s.finish)
}

func (s *session) freeNext() { s.try(&single{reach: s.freeRecord}, s.freeOn, s.finish) }

func (s *session) freeRecord() (e api.Errno) {
	s.freed, e = s.engine.base.Tx.Free(s.floor)
	return e
}

// freeOn frees the next record behind one that was freed; when none is left to be freed it tries once more to open one.
func (s *session) freeOn() {
	if s.freed {
		s.freeNext()
		return
	}
	s.try(&single{reach: s.openRecord}, s.draw, s.finish)
}

func (s *session) draw() {
	start := s.engine.base.Tx.Start(s.record)
	s.try(start, func() { s.entered(start.Begin()) }, s.quitRecord)
}

// quitRecord gives the record back that got no begin.
func (s *session) quitRecord(e api.Errno) {
	s.verdict = e
	s.anyway(s.engine.base.Tx.Quit(s.record), func() { s.finish(s.verdict) })
}

func (s *session) entered(begin uint64) {
	s.transaction = transaction{
		open:  true,
		id:    s.record,
		iso:   s.asked.Iso,
		begin: begin,
		made:  intents{},
		taken: intents{},
		sees:  valid.NewSees(),
		turns: map[string]int{},
	}
	s.answer.Stamp = begin
	s.finish(api.OK)
	s.place = s.engine.book.began(s.iso, begin, s.came)
}
