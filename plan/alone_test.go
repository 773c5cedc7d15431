package plan_test

import (
	"fmt"
	"maps"
	"slices"
	"strings"
	"testing"

	"strata/api"

	"strata/plan"
	"strata/tongue"
)

// alone_test.go: a session that is alone sees what plain lists of rows say.

// plainTable is a definition and its rows, by their keys.
type plainTable struct {
	api.Table
	rows map[string][]api.Value
}

// plainState is all that is stored.
type plainState struct {
	tables map[string]plainTable
	number int64            // given last
	names  map[int64]string // of all numbers that were given
}

func (s plainState) clone() plainState {
	c := plainState{map[string]plainTable{}, s.number, maps.Clone(s.names)}
	for name, u := range s.tables {
		c.tables[name] = plainTable{u.Table, maps.Clone(u.rows)}
	}
	return c
}

// plainStore is what one session sees.
type plainStore struct {
	state, saved plainState
	open         bool
	clock        uint64
}

func newPlainStore() *plainStore {
	return &plainStore{state: plainState{map[string]plainTable{}, 0, map[int64]string{}}}
}

// pairs tells all that is stored as keys and data.
func (d *plainStore) pairs() []api.Pair {
	stored := map[string]string{}
	if d.state.number > 0 {
		stored[key(in(0))] = data(in(d.state.number))
	}
	for number, name := range d.state.names {
		stored[key(in(0), in(number))] = data(tx(name))
	}
	for name, u := range d.state.tables {
		stored[key(in(0), tx(name))] = plainDefinition(u.Table)
		for k, values := range u.rows {
			stored[k] = data(values...)
		}
	}
	var pairs []api.Pair
	for _, k := range slices.Sorted(maps.Keys(stored)) {
		pairs = append(pairs, api.Pair{Key: k, Data: stored[k]})
	}
	return pairs
}

// do answers a statement.
func (d *plainStore) do(s api.Stmt) api.Result {
	switch {
	case !tongue.Valid(api.Command{Kind: api.CmStmt, Stmt: s}):
		return api.Result{Code: api.ErrTree}
	case s.Kind == api.StBegin && d.open:
		return api.Result{Code: api.ErrOpenTx}
	case s.Kind == api.StBegin:
		d.begin()
		return api.Result{Stamp: d.clock}
	case (s.Kind == api.StCommit || s.Kind == api.StRollback) && !d.open:
		return api.Result{Code: api.ErrNoTx}
	case s.Kind == api.StCommit:
		return d.commit(api.Result{})
	case s.Kind == api.StRollback:
		return d.abort(api.OK)
	}
	if s.Kind == api.StCreate {
		if code := plainDefine(s); code != api.OK {
			return api.Result{Code: code}
		}
	}
	alone := !d.open
	if alone {
		d.begin()
	}
	r, o := d.work(s)
	switch {
	case o.code != api.OK && (alone || !o.refused):
		return d.abort(o.code)
	case o.code != api.OK:
		return api.Result{Code: o.code}
	case alone:
		return d.commit(r)
	}
	return r
}

func (d *plainStore) begin() {
	d.clock++
	d.saved, d.open = d.state.clone(), true
}

func (d *plainStore) commit(r api.Result) api.Result {
	d.clock++
	d.open = false
	r.Stamp, r.End = d.clock, api.EndCommit
	return r
}

func (d *plainStore) abort(code api.Errno) api.Result {
	d.state, d.open = d.saved, false
	return api.Result{Code: code, End: api.EndAbort}
}

// plainDefine tells what is wrong with a definition.
func plainDefine(s api.Stmt) api.Errno {
	names := map[string]int{}
	for _, c := range s.Cols {
		names[c.Name]++
		if names[c.Name] > 1 {
			return api.ErrColumn
		}
	}
	for _, name := range s.Key {
		if names[name] != 1 || len(s.Key) > 8 {
			return api.ErrPrimary
		}
		names[name]++
	}
	return api.OK
}

func (d *plainStore) work(s api.Stmt) (api.Result, outcome) {
	u, there := d.state.tables[s.Table]
	switch {
	case s.Kind == api.StCreate && there:
		return api.Result{}, outcome{api.ErrExists, true}
	case s.Kind == api.StCreate:
		d.create(s)
		return api.Result{}, outcome{}
	case !there:
		return api.Result{}, outcome{api.ErrTable, true}
	case s.Kind == api.StDrop:
		delete(d.state.tables, s.Table)
		return api.Result{Count: len(u.rows)}, outcome{}
	}
	if code := plainCheck(s, u.Table); code != api.OK {
		return api.Result{}, outcome{code, true}
	}
	if s.Kind == api.StInsert {
		return u.insert(s)
	}
	low, high := plainBounds(u.Table, s.Where)
	var keys []string
	var rows [][]api.Value
	for _, k := range slices.Sorted(maps.Keys(u.rows)) {
		if k >= cutLow(low) && (k < high || len(high) > api.MaxKey && k[:min(len(k), api.MaxKey)] <= high[:api.MaxKey]) {
			keys, rows = append(keys, k), append(rows, u.rows[k])
		}
	}
	if s.Kind == api.StSelect {
		r, code := plainSelect(s, u.Table, rows)
		return r, outcome{code, false}
	}
	return u.change(s, keys, rows)
}

// cutLow is a bound without what no key can have.
func cutLow(low string) string { return low[:min(len(low), api.MaxKey)] }

func (d *plainStore) create(s api.Stmt) {
	d.state.number++
	d.state.names[d.state.number] = s.Table
	u := plainTable{api.Table{Name: s.Table, Number: d.state.number}, map[string][]api.Value{}}
	for _, c := range s.Cols {
		c.NotNull = c.NotNull || slices.Contains(s.Key, c.Name)
		u.Cols = append(u.Cols, c)
	}
	for _, name := range s.Key {
		place, _, _ := plainColumn(name, u.Cols)
		u.Key = append(u.Key, place)
	}
	d.state.tables[s.Table] = u
}

// keyOf is the key of a row.
func (u plainTable) keyOf(values []api.Value) string {
	list := row(in(u.Number))
	for _, place := range u.Key {
		list = append(list, values[place])
	}
	return key(list...)
}

func (u plainTable) insert(s api.Stmt) (api.Result, outcome) {
	var rows [][]api.Value
	for _, of := range s.Rows {
		values := make([]api.Value, len(u.Cols))
		for i, e := range of {
			v, code := plainEval(e, nil, nil)
			if code != api.OK {
				return api.Result{}, outcome{code, false}
			}
			place := i
			if len(s.Names) > 0 {
				place, _, _ = plainColumn(s.Names[i], u.Cols)
			}
			values[place] = v
		}
		if code := plainRowCode(u.Table, values); code != api.OK {
			return api.Result{}, outcome{code, false}
		}
		rows = append(rows, values)
	}
	for _, values := range rows {
		k := u.keyOf(values)
		if _, there := u.rows[k]; there {
			return api.Result{}, outcome{api.ErrDuplicate, false}
		}
		u.rows[k] = values
	}
	return api.Result{Count: len(rows)}, outcome{}
}

func (u plainTable) change(s api.Stmt, keys []string, rows [][]api.Value) (api.Result, outcome) {
	changed := map[string][]api.Value{}
	for i, old := range rows {
		if len(s.Where) > 0 {
			v, code := plainEval(s.Where, u.Cols, old)
			if code != api.OK {
				return api.Result{}, outcome{code, false}
			}
			if v != bo(true) {
				continue
			}
		}
		fresh := slices.Clone(old)
		for j, name := range s.Names {
			v, code := plainEval(s.Rows[0][j], u.Cols, old)
			if code != api.OK {
				return api.Result{}, outcome{code, false}
			}
			place, _, _ := plainColumn(name, u.Cols)
			fresh[place] = v
		}
		if code := plainRowCode(u.Table, fresh); code != api.OK {
			return api.Result{}, outcome{code, false}
		}
		changed[keys[i]] = fresh
	}
	for k, fresh := range changed {
		if u.rows[k] = fresh; s.Kind == api.StDelete {
			delete(u.rows, k)
		}
	}
	return api.Result{Count: len(changed)}, outcome{}
}

// P16.10, P16.11: statement by statement, on statements of any kind.
func TestAlone(t *testing.T) {
	var codes, kinds, counts met
	inBatches(t, 6000, func(m *maker) string {
		e := engineOf(t, api.Config{Slots: 2000, Buckets: 1 + m.Intn(30), TxSlots: 250, Sessions: 2})
		d := newPlainStore()
		var told strings.Builder
		for n := range 40 {
			s := m.statement(t, e, 0)
			if n == 0 {
				s = stmt(t, pick(m, tableTexts()...))
			}
			text, _ := tongue.Print(api.Command{Kind: api.CmStmt, Stmt: s})
			told.WriteString(text)
			rs, code := plan.Do(e, 0, s)
			if code != api.OK || len(rs) != 1 {
				return fmt.Sprintf("P16.11: Do(%s) = %+v, %d", text, rs, code)
			}
			right := d.do(s)
			if fmt.Sprintf("%+v", rs[0]) != fmt.Sprintf("%+v", right) {
				return fmt.Sprintf("P16.10: %s: %+v, want %+v, behind\n%s", text, rs[0], right, told.String())
			}
			kinds[max(s.Kind, 0)].Add(1)
			codes[rs[0].Code].Add(1)
			counts[min(rs[0].Count, 9)].Add(1)
			if d.open != e.Open(0) {
				return fmt.Sprintf("P16.10: %s: open %v", text, e.Open(0))
			}
			if got := rowsOf(e); !d.open && !slices.Equal(got, d.pairs()) {
				return fmt.Sprintf("P16.10: %s: there is %q, want %q, behind\n%s", text, got, d.pairs(), told.String())
			}
		}
		return ""
	})
	kinds.atLeast(t, 100, api.StCreate, api.StDrop, api.StInsert, api.StSelect, api.StUpdate, api.StDelete, api.StBegin, api.StCommit, api.StRollback)
	codes.atLeast(t, 100, api.OK, api.ErrTable, api.ErrExists, api.ErrColumn, api.ErrType, api.ErrDivide, api.ErrOver, api.ErrNotNull, api.ErrArity, api.ErrPrimary, api.ErrDuplicate, api.ErrNoTx, api.ErrOpenTx)
	counts.atLeast(t, 100, 0, 1, 2, 3, 4, 5)
}
