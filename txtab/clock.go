package txtab

import "strata/api"

// Clock reads the last timestamp given out (P6.2). One access.
func (t *Table) Clock() (uint64, api.Errno) {
	if t.missing() {
		return 0, api.ErrNil
	}
	t.lock.RLock()
	defer t.lock.RUnlock()
	t.accesses.Add(1)
	return t.clock, api.OK
}

// Tick gives out the next timestamp (P6.2). One access.
func (t *Table) Tick() (uint64, api.Errno) {
	if t.missing() {
		return 0, api.ErrNil
	}
	t.lock.Lock()
	defer t.lock.Unlock()
	t.accesses.Add(1)
	if t.clock == api.MaxTime {
		return 0, api.ErrClock
	}
	t.clock++
	return t.clock, api.OK
}
