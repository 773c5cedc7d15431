package sweep_test

import (
	"testing"

	"strata/api"
	"strata/sweep"
)

// The chapter's examples, one behind the other.
func TestExamples(t *testing.T) {
	w := newWorld(t, 8, 1, 2, 0)
	want(t, "example 1", []bool{
		sweep.Garbage(api.Infinity, api.Infinity, 0), sweep.Garbage(3, 7, 7), sweep.Garbage(3, 7, 6), sweep.Garbage(3, api.Infinity, 100), sweep.Garbage(word(1), 5, 9), sweep.Garbage(api.Infinity, word(1), 0),
	}, []bool{true, true, false, false, false, true})

	load := w.Load(4, "k", "v")
	w.run(load)
	slot := load.Slot()
	w.finish("example 2", w.Collect(slot, 100), "cc", api.ErrNeeded, nil)

	w.Cells.Store(slot, api.CellEnd, 6)
	w.finish("example 3: a floor below its end", w.Collect(slot, 5), "cc", api.ErrNeeded, nil)
	m := w.Collect(slot, 6)
	w.run(m)
	want(t, "example 3", m.Code(), api.OK)
	w.amounts("example 3", 1, 1, 0)
	w.linked("example 3", nil, nil)
	w.finish("example 3: once more", w.Collect(slot, 6), "ccc", api.ErrClaimed, nil)

	stamp, _ := w.Tx.Horizon()
	w.finish("example 4: a floor that is the stamp", w.Reclaim(stamp, 9), "l", api.OK, 0)
	w.finish("example 4: a floor above the stamp", w.Reclaim(stamp+1, 9), "lcl", api.OK, 1)
	w.amounts("example 4", 0, 1, 1)

	w.refused("example 5: no more than none", w.Reclaim(100, 0), api.OK)
	w.refused("example 5: Pass(1)", w.Pass(1), api.ErrBucket)
	w.refused("example 5: Pass(-1)", w.Pass(-1), api.ErrBucket)

	w.put("x", 1, 1)
	w.open(2)
	w.finish("example 6", w.Pass(0), "ttt"+"t"+"l"+"t", api.ErrTxFull, [2]uint64{0, 1})
	w.amounts("example 6", 0, 1, 1)
}
