package txtab

import "strata/api"

// What stands here is for looking alone: no accesses, and no misses. What tells several words holds the lock alone, so that they are of one moment.

// Accesses tells how many accesses there were.
func (t *Table) Accesses() int {
	if t.missing() {
		return 0
	}
	return int(t.accesses.Load())
}

// Misses tells how many accesses met a record that is not in use.
func (t *Table) Misses() int {
	if t.missing() {
		return 0
	}
	return int(t.misses.Load())
}

// Places tells how many places there are.
func (t *Table) Places() int {
	if t.missing() {
		return 0
	}
	return len(t.records)
}

// Waiting tells how many wait to be freed.
func (t *Table) Waiting() int {
	if t.missing() {
		return 0
	}
	t.lock.RLock()
	defer t.lock.RUnlock()
	return t.waiting.count
}

// Live tells the numbers of the records in use, rising.
func (t *Table) Live() []int {
	if t.missing() {
		return nil
	}
	t.lock.RLock()
	defer t.lock.RUnlock()
	var ids []int
	for id := 1; t.has(id); id++ {
		if _, e := t.inUse(id); e == api.OK {
			ids = append(ids, id)
		}
	}
	return ids
}

// Info tells what the record was opened with.
func (t *Table) Info(id int) (api.TxInfo, api.Errno) {
	if t.missing() {
		return api.TxInfo{}, api.ErrNil
	}
	t.lock.RLock()
	defer t.lock.RUnlock()
	r, e := t.inUse(id)
	if e != api.OK {
		return api.TxInfo{}, e
	}
	return r.info, api.OK
}

// Look tells a record's state and end timestamp.
func (t *Table) Look(id int) (state int, end uint64, e api.Errno) {
	if t.missing() {
		return 0, 0, api.ErrNil
	}
	t.lock.Lock()
	defer t.lock.Unlock()
	r, e := t.inUse(id)
	if e != api.OK {
		return 0, 0, e
	}
	return int(r.state.Load()), r.end.Load(), api.OK
}

// Horizon tells what Clock would answer, and what a Floor run alone would find.
func (t *Table) Horizon() (clock, floor uint64) {
	if t.missing() {
		return 0, 0
	}
	t.lock.Lock()
	defer t.lock.Unlock()
	floor = t.clock + 1
	for i := range t.records {
		floor = lower(floor, t.records[i].announced.Load())
	}
	return t.clock, floor
}

// lower tells the floor once an announced begin is known; 0 announces nothing.
func lower(floor, announced uint64) uint64 {
	if announced == 0 {
		return floor
	}
	return min(floor, announced)
}
