package txtab

import "strata/api"

// Open takes a free record: state Active, nothing else yet (P6.3). One access.
func (t *Table) Open(info api.TxInfo) (int, api.Errno) {
	if t.missing() {
		return 0, api.ErrNil
	}
	t.lock.Lock()
	defer t.lock.Unlock()
	t.accesses.Add(1)
	id, ok := t.free.first()
	if !ok {
		return 0, api.ErrTxFull
	}
	t.free.drop()
	t.records[id-1].open(info)
	return id, api.OK
}

// Retire puts a terminated record among those that wait to be freed, with a stamp (P6.7). One access.
func (t *Table) Retire(id int, stamp uint64) api.Errno {
	return t.change(id, func(r *record) api.Errno {
		if r.state.Load() != api.TxTerminated || r.retired {
			return api.ErrState
		}
		r.retired = true
		t.waiting.put(retiree{id, stamp})
		return api.OK
	})
}

// Free frees the first of those that wait, if its stamp is below the floor (P6.7). One access.
func (t *Table) Free(floor uint64) (bool, api.Errno) {
	if t.missing() {
		return false, api.ErrNil
	}
	t.lock.Lock()
	defer t.lock.Unlock()
	t.accesses.Add(1)
	first, ok := t.waiting.first()
	if !ok || first.stamp >= floor {
		return false, api.OK
	}
	t.waiting.drop()
	t.giveBack(first.id)
	return true, api.OK
}

// Drop frees a terminated record at once (P6.7). One access.
func (t *Table) Drop(id int) api.Errno {
	return t.change(id, func(r *record) api.Errno {
		if r.state.Load() != api.TxTerminated || r.retired {
			return api.ErrState
		}
		t.giveBack(id)
		return api.OK
	})
}

// giveBack frees a place. Whoever calls it holds the lock alone.
func (t *Table) giveBack(id int) {
	r := &t.records[id-1]
	r.state.Store(unused)
	r.announced.Store(0)
	t.free.put(id)
}
