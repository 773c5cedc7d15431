package engine

import "strata/api"

// orLong ends the transaction where a list of its versions is full.
func orLong(full bool) {
	if full {
		giveUp(api.ErrLong)
	}
}

func (s *session) insert() {
	s.look(func() {
		orLong(s.made.full())
		s.build(s.standFree)
	})
}

func (s *session) update() {
	s.look(func() {
		s.find(func() {
			orLong(s.taken.full() || s.made.full())
			s.take(func() { s.build(s.wrotePut) })
		})
	})
}

func (s *session) remove() {
	s.look(func() {
		s.find(func() {
			orLong(s.taken.full())
			s.take(s.wroteDelete)
		})
	})
}

// take locks the version that was found: it is one of those taken then.
func (s *session) take(then func()) {
	s.next = then
	s.run(s.engine.base.Lock(s.id, s.slot), func() {
		s.taken.add(s.slot, s.entry)
		s.wrote = true
		s.next()
	})
}

// build makes a version of the call's key and data. It is one of those made as soon as it has a slot, whatever comes then.
func (s *session) build(then func()) {
	s.next = then
	m := s.engine.base.Make(s.id, s.asked.Key, s.asked.Data)
	s.try(m, func() {
		s.built(m.Slot())
		s.next()
	}, func(e api.Errno) {
		if m.Slot() != 0 {
			s.built(m.Slot())
		}
		giveUp(e)
	})
}

func (s *session) built(slot int) {
	s.slot = slot
	s.made.add(slot, api.Entry{Name: s.asked.Key, Data: s.asked.Data})
	s.wrote = true
}

// standFree looks whether the new version may stand.
func (s *session) standFree() {
	free := s.engine.base.Free(s.id, s.slot, s.at)
	s.try(free, s.wrotePut, func(e api.Errno) {
		if e != api.ErrDuplicate {
			giveUp(e)
		}
		s.access(s.withdraw, func() { s.withdrawn(free.Slot()) })
	})
}

// withdraw gives the new version up: it never begins.
func (s *session) withdraw() api.Errno {
	return s.engine.base.Cells.Store(s.slot, api.CellBegin, api.Infinity)
}

func (s *session) withdrawn(other int) {
	delete(s.made, s.slot)
	s.meet(other)
	s.finish(api.ErrDuplicate)
}

func (s *session) wrotePut() {
	s.turns[s.asked.Key]++
	s.engine.book.put(s.place, s.slot, s.asked.Key, s.asked.Data, s.turns[s.asked.Key])
	s.finish(api.OK)
}

func (s *session) wroteDelete() {
	s.turns[s.asked.Key]++
	s.engine.book.deleted(s.place, s.asked.Key)
	s.finish(api.OK)
}
