package plan

import (
	"math"
	"slices"

	"strata/api"
	"strata/bits"
)

// works tells what the statements do, by their kinds.
func works() [api.StRollback + 1]func(*Run) error {
	return [...]func(*Run) error{
		api.StCreate:   (*Run).create,
		api.StDrop:     (*Run).drop,
		api.StInsert:   (*Run).insert,
		api.StSelect:   (*Run).query,
		api.StUpdate:   (*Run).update,
		api.StDelete:   (*Run).remove,
		api.StBegin:    (*Run).enter,
		api.StCommit:   (*Run).commit,
		api.StRollback: (*Run).rollback,
	}
}

func (r *Run) enter() error {
	return r.ask(api.Call{Kind: api.CallBegin, Iso: r.stmt.Level}, func(a api.Answer) error {
		r.result.Stamp = a.Stamp
		return r.finish(a.Code)
	})
}

func (r *Run) commit() error {
	return r.ask(api.Call{Kind: api.CallCommit}, func(a api.Answer) error {
		if a.Code == api.OK {
			return r.committed(a)
		}
		return r.finish(a.Code)
	})
}

func (r *Run) rollback() error {
	return r.ask(api.Call{Kind: api.CallAbort}, func(a api.Answer) error { return r.finish(a.Code) })
}

// pairIn tells the pair that a get has answered; a call that others have put in its place may have answered none.
func pairIn(a api.Answer) api.Pair {
	if len(a.Rows) == 0 {
		return api.Pair{}
	}
	return a.Rows[0]
}

func get(key string) api.Call { return api.Call{Kind: api.CallGet, Key: key} }

func put(kind int, p api.Pair) api.Call { return api.Call{Kind: kind, Key: p.Key, Data: p.Data} }

// encoded tells the catalog's row of the table that the statement defines.
func (r *Run) encoded(number int64) (api.Pair, error) {
	t, err := define(r.stmt, number)
	if err != nil {
		return api.Pair{}, err
	}
	return encodeTable(t)
}

func (r *Run) create() error {
	if _, err := r.encoded(1); err != nil {
		return refusal{err}
	}
	return r.inside(func() error {
		return r.need(get(nameKey(r.stmt.Table)), func(a api.Answer) error {
			if a.Code == api.OK {
				return refusal{fault{api.ErrExists}}
			}
			return r.need(get(keyOf(intValue(0))), r.takeNumber, api.ErrNotFound)
		}, api.ErrNotFound)
	})
}

// takeNumber gives the table the number behind the one that was given last.
func (r *Run) takeNumber(last api.Answer) error {
	number, kind := int64(1), api.CallInsert
	if last.Code == api.OK {
		n, err := numberIn(pairIn(last).Data)
		if err != nil {
			return err
		}
		number, kind = n+1, api.CallUpdate
	}
	count := put(kind, api.Pair{Key: keyOf(intValue(0)), Data: dataOf(intValue(number))})
	name := put(api.CallInsert, api.Pair{Key: keyOf(intValue(0), intValue(number)), Data: dataOf(textValue(r.stmt.Table))})
	return r.play([]api.Call{count, name}, func(int) error { return r.enlist(number) })
}

// dataOf lays down a row of one value that is known to be valid.
func dataOf(v api.Value) string {
	data, _ := bits.Row(v)
	return data
}

// numberIn reads the number that was given last; it has to leave room for another one.
func numberIn(data string) (int64, error) {
	row, _ := bits.ReadRow(data)
	if len(row) != 1 || row[0].Kind != api.KInt || row[0].Int < 1 || row[0].Int == math.MaxInt64 {
		return 0, fault{api.ErrDefine}
	}
	return row[0].Int, nil
}

// enlist puts the table into the catalog.
func (r *Run) enlist(number int64) error {
	p, err := r.encoded(number)
	if err != nil {
		return err
	}
	return r.need(put(api.CallInsert, p), func(api.Answer) error { return r.leave() })
}

// overTable looks the table up, and does a work over it.
func (r *Run) overTable(work func() error) error {
	return r.inside(func() error {
		return r.need(get(nameKey(r.stmt.Table)), func(a api.Answer) (err error) {
			if a.Code == api.ErrNotFound {
				return refusal{fault{api.ErrTable}}
			}
			if r.table, err = decodeTable(pairIn(a)); err != nil {
				return err
			}
			return work()
		}, api.ErrNotFound)
	})
}

func (r *Run) drop() error {
	return r.overTable(func() error {
		low := keyOf(intValue(r.table.Number))
		return r.need(api.Call{Kind: api.CallScan, Key: low, High: afterOf(low)}, r.dropRows)
	})
}

func (r *Run) dropRows(found api.Answer) error {
	var calls []api.Call
	for _, p := range found.Rows {
		calls = append(calls, api.Call{Kind: api.CallDelete, Key: p.Key})
	}
	return r.play(calls, func(good int) error {
		last := api.Call{Kind: api.CallDelete, Key: nameKey(r.table.Name)}
		return r.need(last, func(api.Answer) error { return r.leaveWith(good) })
	})
}

// overChecked does a work with the statement made ready over its table.
func (r *Run) overChecked(work func(p *ready) error) error {
	return r.overTable(func() error {
		p, err := readied(r.stmt, r.table)
		if err != nil {
			return refusal{err}
		}
		return work(p)
	})
}

// overRows does a work with the rows in the range that the condition leaves.
func (r *Run) overRows(work func(p *ready, rows [][]api.Value) error) error {
	return r.overChecked(func(p *ready) error {
		follow := func(a api.Answer) error {
			rows, err := rowsOf(r.table, a.Rows)
			if err != nil {
				return err
			}
			return work(p, rows)
		}
		low, high := boundsOf(r.table, p.where)
		switch {
		case high != low+"\x00":
			return r.need(api.Call{Kind: api.CallScan, Key: cut(low), High: cutAbove(high)}, follow)
		case len(low) > api.MaxKey:
			return follow(api.Answer{})
		}
		return r.need(get(low), follow, api.ErrNotFound)
	})
}

// cut leaves of a bound what may be asked for: no key stands between it and the whole.
func cut(low string) string { return low[:min(len(low), api.MaxKey)] }

// cutAbove leaves a bound that is not below the whole.
func cutAbove(high string) string {
	if len(high) > api.MaxKey {
		return afterOf(cut(high))
	}
	return high
}

func rowsOf(t api.Table, pairs []api.Pair) ([][]api.Value, error) {
	var rows [][]api.Value
	err := eachOf(pairs, func(_ int, p api.Pair) error {
		row, err := pairRow(t, p)
		rows = append(rows, row)
		return err
	})
	return rows, err
}

func (r *Run) query() error {
	return r.overRows(func(p *ready, rows [][]api.Value) (err error) {
		if r.result, err = p.answer(rows); err != nil {
			return err
		}
		return r.leave()
	})
}

func (r *Run) insert() error {
	return r.overChecked(func(p *ready) error {
		calls, err := caught(p.inserts)
		if err != nil {
			return err
		}
		return r.play(calls, r.leaveWith)
	})
}

// inserts makes the calls that put the rows in; columns that are not named are null.
func (p *ready) inserts() []api.Call {
	var calls []api.Call
	for _, values := range p.rows {
		row := make([]api.Value, len(p.table.Cols))
		calls = append(calls, p.written(api.CallInsert, row, values, nil))
	}
	return calls
}

// written makes the call that writes a row with new values, which are told over an old one.
func (p *ready) written(kind int, row []api.Value, values []node, old []api.Value) api.Call {
	for i, v := range all(values, old) {
		row[p.places[i]] = v
	}
	return put(kind, orGiveUp(rowPair(p.table, row)))
}

func (r *Run) update() error { return r.change((*ready).updates) }

func (r *Run) remove() error { return r.change((*ready).removals) }

// change makes the calls that a statement comes to over rows; a row that is gone meanwhile is passed over.
func (r *Run) change(calls func(p *ready, rows [][]api.Value) []api.Call) error {
	return r.overRows(func(p *ready, rows [][]api.Value) error {
		list, err := caught(func() []api.Call { return calls(p, rows) })
		if err != nil {
			return err
		}
		return r.play(list, r.leaveWith, api.ErrNotFound)
	})
}

// updates are made row by row: the condition, then the new values over the old row.
func (p *ready) updates(rows [][]api.Value) []api.Call {
	var calls []api.Call
	for _, old := range rows {
		if p.meets(old) {
			calls = append(calls, p.written(api.CallUpdate, slices.Clone(old), p.rows[0], old))
		}
	}
	return calls
}

func (p *ready) removals(rows [][]api.Value) []api.Call {
	var calls []api.Call
	for _, row := range p.met(rows) {
		p := orGiveUp(rowPair(p.table, row))
		calls = append(calls, api.Call{Kind: api.CallDelete, Key: p.Key})
	}
	return calls
}
