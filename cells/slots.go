package cells

import "strata/api"

// Alloc takes the front slot of the free queue (P2.3).
func (a *Arena[P]) Alloc(p P, words ...uint64) (int, api.Errno) {
	if a.missing() {
		return 0, api.ErrNil
	}
	if len(words) > a.width {
		return 0, api.ErrWords
	}
	a.gate.RLock()
	defer a.gate.RUnlock()
	// The lock is held until the slot is in use: else one that was taken later could be seen in use ahead of it.
	a.queue.lock.Lock()
	defer a.queue.lock.Unlock()
	a.accesses.Add(1)
	number := a.queue.take()
	if number == 0 {
		return 0, api.ErrFull
	}
	a.lay(number, p, words)
	return number, api.OK
}

// lay puts what a slot holds into it, and then opens it to the others.
func (a *Arena[P]) lay(number int, p P, words []uint64) {
	cells := a.cellsOf(number)
	for i := range cells {
		var word uint64
		if i < len(words) {
			word = words[i]
		}
		cells[i].Store(word)
	}
	s := &a.slots[number-1]
	s.payload = p
	s.turns++
	s.used.Store(true)
}

// Free gives a slot back (P2.4).
func (a *Arena[P]) Free(slot int) api.Errno {
	if a.missing() {
		return api.ErrNil
	}
	a.gate.Lock()
	defer a.gate.Unlock()
	s, e := a.reach(slot)
	if e != api.OK {
		return e
	}
	a.accesses.Add(1)
	var none P
	s.payload = none // what it points to must not be kept alive by a slot that is free
	s.used.Store(false)
	a.queue.lock.Lock()
	defer a.queue.lock.Unlock()
	a.queue.put(slot)
	return api.OK
}

// Payload tells what a slot holds (P2.5).
func (a *Arena[P]) Payload(slot int) (P, api.Errno) {
	var none P
	if a.missing() {
		return none, api.ErrNil
	}
	a.gate.RLock()
	defer a.gate.RUnlock()
	s, e := a.reach(slot)
	if e != api.OK {
		return none, e
	}
	return s.payload, api.OK
}
