package engine

import (
	"strata/api"
	"strata/valid"
)

// commit asks for the dependencies first: a cascade needs no end (P10.9).
func (s *session) commit() { s.access(s.waits, s.prepare) }

func (s *session) prepare() { s.access(s.moveTo(api.TxPreparing), s.drawEnd) }

// moveTo is the access that moves the transaction's state.
func (s *session) moveTo(state int) func() api.Errno {
	return func() api.Errno { return s.engine.base.Tx.Move(s.id, state) }
}

func (s *session) drawEnd() {
	draw := s.engine.base.Tx.Draw(s.id)
	s.run(draw, func() {
		s.end = draw.End()
		s.check()
	})
}

func (s *session) check() {
	s.run(valid.NewCheck(s.engine.base, s.id, s.iso, s.sees, s.end), s.await)
}

// await asks again and again, till no dependency is open.
func (s *session) await() {
	s.access(s.waits, func() {
		if s.opened > 0 {
			s.await()
			return
		}
		s.enlist()
	})
}

// enlist puts what the transaction has changed into the log, ahead of its state: the log has every commit that others can know of.
func (s *session) enlist() {
	entry := api.Commit{Stamp: s.end, Writes: s.writes()}
	if len(entry.Writes) == 0 {
		s.decide()
		return
	}
	s.access(func() api.Errno {
		s.engine.log = append(s.engine.log, entry)
		return api.OK
	}, s.decide)
}

func (s *session) decide() {
	s.access(s.moveTo(api.TxCommitted), func() {
		s.engine.book.decided(s.place, api.FCommitted, s.end, s.came)
		s.run(s.engine.base.Tx.Close(s.id), s.settle)
	})
}

func (s *session) settle() {
	s.run(s.engine.base.Commit(s.id, s.made.slots(), s.taken.slots(), s.end), s.leave)
}

// leave gives the record back at once, if nobody can have met its number in a version's word.
func (s *session) leave() {
	s.answer.Stamp = s.end
	if s.wrote {
		s.run(s.engine.base.Tx.Leave(s.id), s.sweepBehind)
	} else {
		s.run(s.engine.base.Tx.Quit(s.id), s.sweepBehind)
	}
}

func (s *session) abort() { s.undo(api.OK) }

// undo is the end by abort with a code. Nothing stops it, whatever its parts meet (P10.10).
func (s *session) undo(code api.Errno) {
	s.answer = api.Answer{}
	s.verdict = code
	s.anyway(&single{reach: s.moveTo(api.TxAborted)}, s.undone)
}

func (s *session) undone() {
	tx := s.engine.base.Tx
	s.engine.book.decided(s.place, api.FAborted, 0, s.came)
	s.anyway(tx.Close(s.id), func() {
		s.anyway(s.engine.base.Undo(s.id, s.made.slots(), s.taken.slots()), func() {
			s.anyway(tx.Leave(s.id), s.sweepBehind)
		})
	})
}

// depart ends the call and the transaction with it.
func (s *session) depart() {
	s.finish(s.verdict)
	s.engine.book.departed(s.place)
	s.transaction = transaction{}
}
