package engine

import (
	"cmp"
	"slices"

	"strata/api"
	"strata/bits"
)

// Rows tells the committed versions without an end, by key, as they are now: no access (P10.6).
func (e *Engine) Rows() []api.Row {
	if e.missing() {
		return nil
	}
	var rows []api.Row
	for slot, entry := range e.base.Cells.All() {
		begin, end, _ := e.base.Words(slot)
		if stamp, ok := e.begun(begin); ok && !e.ended(end) {
			rows = append(rows, api.Row{Key: entry.Name, Data: entry.Data, Stamp: stamp})
		}
	}
	slices.SortStableFunc(rows, func(a, b api.Row) int { return cmp.Compare(a.Key, b.Key) })
	return rows
}

// begun tells the timestamp that a begin word stands for, if it is one that is decided.
func (e *Engine) begun(word uint64) (uint64, bool) {
	switch kind, n := bits.Split(word); kind {
	case api.WTime:
		return n, true
	case api.WTxn:
		return e.committed(n)
	}
	return 0, false
}

// ended tells whether an end word says that the version has ended: what another one has taken has not, as long as that one has not committed.
func (e *Engine) ended(word uint64) bool {
	switch kind, n := bits.Split(word); kind {
	case api.WInf:
		return false
	case api.WTxn:
		_, ok := e.committed(n)
		return ok
	}
	return true
}

// committed tells the end of a transaction whose word was met behind its commit, ahead of the versions' last words.
func (e *Engine) committed(id uint64) (uint64, bool) {
	state, end, _ := e.base.Tx.Look(int(id))
	return end, state == api.TxCommitted
}
