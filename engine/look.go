package engine

import "strata/api"

// look is how all calls begin that look at versions: a transaction whose dependency has aborted goes no further; then the timestamp at which is looked (P10.8).
func (s *session) look(next func()) {
	s.next = next
	s.access(s.waits, s.setAt)
}

// waits asks for the dependencies: an aborted one is an error.
func (s *session) waits() api.Errno {
	open, aborted, e := s.engine.base.Tx.Waits(s.id)
	s.opened = open
	if aborted > 0 {
		return api.ErrCascade
	}
	return e
}

func (s *session) setAt() {
	if s.iso == api.ReadCommitted {
		s.access(s.readClock, s.next)
		return
	}
	s.at = s.begin
	s.next()
}

func (s *session) readClock() (e api.Errno) {
	s.at, e = s.engine.base.Tx.Clock()
	return e
}

func (s *session) get() { s.look(func() { s.find(s.tellPair) }) }

func (s *session) tellPair() {
	s.answer.Rows = []api.Pair{{Key: s.entry.Name, Data: s.entry.Data}}
	s.finish(api.OK)
}

// find looks for the version of the call's key; then follows what the call does with it.
func (s *session) find(then func()) {
	s.next = then
	find := s.engine.base.Find(s.id, s.asked.Key, s.at)
	s.run(find, func() { s.found(find.Slot()) })
}

// found notes the version; that there is none is noted as a range that holds the key alone.
func (s *session) found(slot int) {
	if slot == 0 {
		low, high := s.asked.Key, s.asked.Key+"\x00"
		s.noteLook(low, high)
		s.engine.book.scanned(s.place, low, high, nil, s.at)
		s.finish(api.ErrNotFound)
		return
	}
	s.meet(slot)
	s.next()
}

// meet notes a version and tells it as read.
func (s *session) meet(slot int) {
	s.slot, s.entry = slot, s.entryOf(slot)
	s.noteRead(slot)
	s.engine.book.read(s.place, slot, s.entry.Data, s.at)
}

// entryOf tells what a version holds.
func (s *session) entryOf(slot int) api.Entry {
	entry, e := s.engine.base.Cells.Payload(slot)
	orGiveUp(e)
	return entry
}

func (s *session) scan() {
	s.look(func() {
		s.walk = s.engine.base.Order.Walk(s.asked.Key)
		s.stroll()
	})
}

// stroll leaves the next slot to the next step, unless none comes: a walk that is ended is not stepped on.
func (s *session) stroll() {
	if s.walk.Ended() {
		s.through()
		return
	}
	s.run(s.walk, s.stand)
}

// stand looks at the version at which the walk stands, if it is one of the range: those behind it have keys that are no lower.
func (s *session) stand() {
	slot := s.walk.Slot()
	if slot == 0 {
		s.through()
		return
	}
	entry := s.entryOf(slot)
	if s.asked.High != "" && entry.Name >= s.asked.High {
		s.through()
		return
	}
	s.slot, s.entry = slot, entry
	see := s.engine.base.See(s.id, slot, s.at)
	s.run(see, func() {
		if see.Seen() {
			s.gather()
		}
		s.stroll()
	})
}

// gather adds the version at which the walk stands to the answer.
func (s *session) gather() {
	s.answer.Rows = append(s.answer.Rows, api.Pair{Key: s.entry.Name, Data: s.entry.Data})
	s.noteRead(s.slot)
	s.seen = append(s.seen, s.engine.book.makers[s.slot])
}

func (s *session) through() {
	s.noteLook(s.asked.Key, s.asked.High)
	s.engine.book.scanned(s.place, s.asked.Key, s.asked.High, s.seen, s.at)
	s.finish(api.OK)
}
