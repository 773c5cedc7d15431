package plan_test

import (
	"fmt"
	"iter"
	"maps"
	"math"
	"slices"
	"testing"

	"strata/api"
	"strata/bits"
	"strata/engine"
	"strata/plan"
	"strata/tongue"
)

// twin_test.go: what chapter 16 says of statements, written down plainly a second time: as a text that runs from its begin to its end, and waits within a call for the next step.

// script plays a statement over an engine.
type script struct {
	e       *engine.Engine
	session int
	next    func() (struct{}, bool)
	stop    func()
	wait    func() // for the next step
	stepped bool   // the step that is going on has made its access
	done    bool
	result  api.Result
}

func newScript(e *engine.Engine, session int, s api.Stmt) *script {
	p := &script{e: e, session: session}
	p.next, p.stop = iter.Pull(func(yield func(struct{}) bool) {
		p.wait = func() {
			if !yield(struct{}{}) {
				panic(p) // it is given up
			}
		}
		defer func() {
			if thrown := recover(); thrown != nil && thrown != p {
				panic(thrown)
			}
		}()
		p.result = p.statement(s)
	})
	return p
}

func (p *script) Step() bool {
	p.stepped = false
	if _, more := p.next(); !more {
		p.done = true
	}
	return p.done
}

// call makes a call to its end.
func (p *script) call(c api.Call) api.Answer {
	if code := p.e.Start(p.session, c); code != api.OK {
		return api.Answer{Code: code}
	}
	for {
		if p.stepped {
			p.wait()
		}
		p.stepped = true
		if done, _ := p.e.Step(p.session); done {
			a, _ := p.e.Take(p.session)
			return a
		}
	}
}

// outcome is how the work of a statement ended.
type outcome struct {
	code    api.Errno
	refused bool
}

// statement is the section 'Statements', from P16.10's second paragraph on.
func (p *script) statement(s api.Stmt) api.Result {
	if !tongue.Valid(api.Command{Kind: api.CmStmt, Stmt: s}) {
		return api.Result{Code: api.ErrTree}
	}
	if code := p.e.Start(p.session, api.Call{Kind: -5}); code == api.ErrSession || code == api.ErrBusy {
		return api.Result{Code: code}
	}
	had := p.e.Open(p.session)
	ended := func(r api.Result) api.Result {
		if had && !p.e.Open(p.session) {
			r.End = api.EndAbort
		}
		return r
	}
	switch s.Kind {
	case api.StBegin:
		a := p.call(begin(s.Level))
		return api.Result{Code: a.Code, Stamp: a.Stamp}
	case api.StCommit:
		a := p.call(commit())
		if a.Code == api.OK {
			return api.Result{Stamp: a.Stamp, End: api.EndCommit}
		}
		return ended(api.Result{Code: a.Code})
	case api.StRollback:
		return ended(api.Result{Code: p.call(abort()).Code})
	}
	alone := !had
	if s.Kind == api.StCreate { // ahead of any call
		if t, code := plan.Define(s, 1); code != api.OK {
			return api.Result{Code: code}
		} else if _, code := plan.EncodeTable(t); code != api.OK {
			return api.Result{Code: code}
		}
	}
	if alone {
		if a := p.call(begin(api.Snapshot)); a.Code != api.OK {
			return api.Result{Code: a.Code}
		}
		had = true
	}
	r, o := p.work(s)
	if o.code != api.OK {
		if !o.refused || alone {
			p.call(abort())
		}
		return ended(api.Result{Code: o.code})
	}
	if !alone {
		return r
	}
	a := p.call(commit())
	if a.Code != api.OK {
		return ended(api.Result{Code: a.Code})
	}
	r.Stamp, r.End = a.Stamp, api.EndCommit
	return r
}

func (p *script) work(s api.Stmt) (api.Result, outcome) {
	if s.Kind == api.StCreate {
		return api.Result{}, p.create(s)
	}
	name, _ := bits.Key(in(0), tx(s.Table))
	a := p.call(get(name))
	if a.Code == api.ErrNotFound {
		return api.Result{}, outcome{api.ErrTable, true}
	}
	if a.Code != api.OK {
		return api.Result{}, outcome{a.Code, false}
	}
	t, code := plan.DecodeTable(a.Rows[0])
	if code != api.OK {
		return api.Result{}, outcome{api.ErrDefine, false}
	}
	if s.Kind == api.StDrop {
		return p.drop(t, name)
	}
	if code := plan.Check(s, t); code != api.OK {
		return api.Result{}, outcome{code, true}
	}
	if s.Kind == api.StInsert {
		return p.insert(s, t)
	}
	rows, code := p.read(s, t)
	if code != api.OK {
		return api.Result{}, outcome{code, false}
	}
	if s.Kind == api.StSelect {
		r, code := plan.Select(s, t, rows)
		return r, outcome{code, false}
	}
	return p.change(s, t, rows)
}

func (p *script) create(s api.Stmt) outcome {
	name, _ := bits.Key(in(0), tx(s.Table))
	a := p.call(get(name))
	if a.Code == api.OK {
		return outcome{api.ErrExists, true}
	}
	if a.Code != api.ErrNotFound {
		return outcome{a.Code, false}
	}
	counter, _ := bits.Key(in(0))
	n := int64(0)
	a = p.call(get(counter))
	switch a.Code {
	case api.OK:
		values, code := bits.ReadRow(a.Rows[0].Data)
		if code != api.OK || len(values) != 1 || values[0].Kind != api.KInt || values[0].Int < 1 || values[0].Int == math.MaxInt64 {
			return outcome{api.ErrDefine, false}
		}
		n = values[0].Int
		next, _ := bits.Row(in(n + 1))
		a = p.call(update(counter, next))
	case api.ErrNotFound:
		next, _ := bits.Row(in(1))
		a = p.call(insert(counter, next))
	}
	if a.Code != api.OK {
		return outcome{a.Code, false}
	}
	number, _ := bits.Key(in(0), in(n+1))
	table, _ := bits.Row(tx(s.Table))
	if a = p.call(insert(number, table)); a.Code != api.OK {
		return outcome{a.Code, false}
	}
	t, _ := plan.Define(s, n+1)
	pair, code := plan.EncodeTable(t)
	if code != api.OK {
		return outcome{code, false}
	}
	return outcome{p.call(insert(pair.Key, pair.Data)).Code, false}
}

func (p *script) drop(t api.Table, name string) (api.Result, outcome) {
	low, _ := bits.Key(in(t.Number))
	high, _ := bits.After(low)
	a := p.call(scan(low, high))
	if a.Code != api.OK {
		return api.Result{}, outcome{a.Code, false}
	}
	for _, pair := range a.Rows {
		if b := p.call(remove(pair.Key)); b.Code != api.OK {
			return api.Result{}, outcome{b.Code, false}
		}
	}
	return api.Result{Count: len(a.Rows)}, outcome{p.call(remove(name)).Code, false}
}

// read reads the rows that a condition leaves.
func (p *script) read(s api.Stmt, t api.Table) ([][]api.Value, api.Errno) {
	low, high, _ := plan.Bounds(t, s.Where)
	var a api.Answer
	if high == low+"\x00" {
		if len(low) > api.MaxKey {
			return nil, api.OK
		}
		if a = p.call(get(low)); a.Code == api.ErrNotFound {
			return nil, api.OK
		}
	} else {
		if len(low) > api.MaxKey {
			low = low[:api.MaxKey]
		}
		if len(high) > api.MaxKey {
			high, _ = bits.After(high[:api.MaxKey])
		}
		a = p.call(scan(low, high))
	}
	if a.Code != api.OK {
		return nil, a.Code
	}
	var rows [][]api.Value
	for _, pair := range a.Rows {
		values, code := plan.PairRow(t, pair)
		if code != api.OK {
			return nil, api.ErrDefine
		}
		rows = append(rows, values)
	}
	return rows, api.OK
}

func (p *script) insert(s api.Stmt, t api.Table) (api.Result, outcome) {
	var pairs []api.Pair
	names := s.Names
	if len(names) == 0 {
		names = namesOf(t.Cols)
	}
	for _, of := range s.Rows {
		values := make([]api.Value, len(t.Cols))
		for i, e := range of {
			v, code := plan.Eval(e, nil, nil)
			if code != api.OK {
				return api.Result{}, outcome{code, false}
			}
			place, _, _ := plainColumn(names[i], t.Cols)
			values[place] = v
		}
		pair, code := plan.RowPair(t, values)
		if code != api.OK {
			return api.Result{}, outcome{code, false}
		}
		pairs = append(pairs, pair)
	}
	for _, pair := range pairs {
		if a := p.call(insert(pair.Key, pair.Data)); a.Code != api.OK {
			return api.Result{}, outcome{a.Code, false}
		}
	}
	return api.Result{Count: len(pairs)}, outcome{}
}

// change is an UPDATE or a DELETE.
func (p *script) change(s api.Stmt, t api.Table, rows [][]api.Value) (api.Result, outcome) {
	var calls []api.Call
	for _, old := range rows {
		if len(s.Where) > 0 {
			v, code := plan.Eval(s.Where, t.Cols, old)
			if code != api.OK {
				return api.Result{}, outcome{code, false}
			}
			if v != bo(true) {
				continue
			}
		}
		fresh := slices.Clone(old)
		for i, name := range s.Names {
			v, code := plan.Eval(s.Rows[0][i], t.Cols, old)
			if code != api.OK {
				return api.Result{}, outcome{code, false}
			}
			place, _, _ := plainColumn(name, t.Cols)
			fresh[place] = v
		}
		pair, code := plan.RowPair(t, fresh)
		if code != api.OK {
			return api.Result{}, outcome{code, false}
		}
		if s.Kind == api.StDelete {
			calls = append(calls, remove(pair.Key))
		} else {
			calls = append(calls, update(pair.Key, pair.Data))
		}
	}
	count := 0
	for _, c := range calls {
		switch a := p.call(c); a.Code {
		case api.OK:
			count++
		case api.ErrNotFound:
		default:
			return api.Result{}, outcome{a.Code, false}
		}
	}
	return api.Result{Count: count}, outcome{}
}

// twins are two engines: one whose statements are run by machines, and one by scripts.
type twins struct {
	t        *testing.T
	e, other *engine.Engine
	runs     map[int]*plan.Run
	scripts  map[int]*script
	told     map[int]string // the statements that are at work
	results  []api.Result
}

func newTwins(t *testing.T, c api.Config, rows ...api.Row) *twins {
	return &twins{t, engineOf(t, c, rows...), engineOf(t, c, rows...), map[int]*plan.Run{}, map[int]*script{}, map[int]string{}, nil}
}

// start begins a statement in both.
func (w *twins) start(session int, s api.Stmt) {
	w.runs[session], w.scripts[session] = plan.NewRun(w.e, session, s), newScript(w.other, session, s)
	text, _ := tongue.Print(api.Command{Kind: api.CmStmt, Who: session, Stmt: s})
	w.told[session] = text
}

// step makes a step in both, and holds them against each other; true: the statement is done.
func (w *twins) step(session int) (done bool, fault string) {
	m, p := w.runs[session], w.scripts[session]
	before := w.e.Accesses()
	done = m.Step()
	made := w.e.Accesses() - before
	right := p.Step()
	type state struct {
		accesses   int
		busy, open bool
		floor      uint64
	}
	a, b := state{w.e.Accesses(), w.e.Busy(session), w.e.Open(session), w.e.Floor()}, state{w.other.Accesses(), w.other.Busy(session), w.other.Open(session), w.other.Floor()}
	if done != right || made > 1 || made == 0 && !done || a != b {
		return done, fmt.Sprintf("P16.10: a step of %s makes %d accesses, done %v, want %v: %+v, want %+v", w.told[session], made, done, right, a, b)
	}
	if !done {
		if r := m.Result(); r.Code != 0 || r.Names != nil || r.Rows != nil || r.Count != 0 || r.Stamp != 0 || r.End != 0 {
			return done, fmt.Sprintf("P16.10: the result of one that is not done: %+v", r)
		}
		return false, ""
	}
	r := m.Result()
	w.results = append(w.results, r)
	if fmt.Sprintf("%+v", r) != fmt.Sprintf("%+v", p.result) {
		return true, fmt.Sprintf("P16.10: %s: %+v, want %+v", w.told[session], r, p.result)
	}
	before = w.e.Accesses()
	if !m.Step() || w.e.Accesses() != before {
		return true, "P0.2: a step of one that is done"
	}
	delete(w.runs, session)
	delete(w.scripts, session)
	return true, ""
}

// same holds all that the engines tell against each other.
func (w *twins) same() string {
	state := func(e *engine.Engine) string { return fmt.Sprintf("%+v %+v %+v", e.Rows(), e.Commits(0), e.History()) }
	if a, b := state(w.e), state(w.other); a != b {
		return fmt.Sprintf("P16.10: %s, want %s", a, b)
	}
	if w.e.Base().Misses() != 0 {
		return "P0.3: misses"
	}
	return ""
}

// close gives up the scripts that are at work.
func (w *twins) close() {
	for _, p := range w.scripts {
		p.stop()
	}
}

// tableTexts are statements that make tables, with keys of one and two columns.
func tableTexts() []string {
	return []string{
		"CREATE TABLE t (a INT, b TEXT, c BOOL NOT NULL, PRIMARY KEY (a))",
		"CREATE TABLE t (a TEXT, b INT, PRIMARY KEY (b, a))",
		"CREATE TABLE u (a INT NOT NULL, b TEXT, c INT, PRIMARY KEY (a, b))",
		"CREATE TABLE u (a BOOL, b INT, PRIMARY KEY (a))",
	}
}

// statement makes any one over the tables t and u, mostly one that fits them as they are.
func (m *maker) statement(t *testing.T, e *engine.Engine, session int) api.Stmt {
	switch {
	case e.Open(session) && m.one(5):
		return stmt(t, pick(m, "COMMIT", "COMMIT", "COMMIT", "ROLLBACK"))
	case m.one(12) || !e.Open(session) && m.one(4):
		return stmt(t, pick(m, "BEGIN READ COMMITTED", "BEGIN", "BEGIN REPEATABLE READ", "BEGIN SERIALIZABLE", "BEGIN SERIALIZABLE", "COMMIT", "ROLLBACK"))
	case m.one(12):
		return stmt(t, pick(m, tableTexts()...))
	case m.one(40):
		return stmt(t, pick(m, "DROP TABLE t", "DROP TABLE u", "CREATE TABLE v (a INT, PRIMARY KEY (z))", "SELECT * FROM nowhere"))
	case m.one(100):
		return api.Stmt{Kind: m.Intn(12) - 1}
	}
	name := pick(m, "t", "t", "u")
	u, _ := plan.Define(stmt(t, pick(m, tableTexts()...)), 1)
	key, _ := bits.Key(in(0), tx(name))
	for _, r := range e.Rows() {
		if there, code := plan.DecodeTable(api.Pair{Key: r.Key, Data: r.Data}); code == api.OK && r.Key == key {
			u = there
		}
	}
	u.Name = name
	if m.one(3) {
		return m.query(u)
	}
	return m.change(u)
}

// someRows makes rows that an engine may begin with: of the catalog and of tables, some of them with data that is none.
func (m *maker) someRows(t *testing.T, config api.Config) []api.Row {
	if !m.one(4) {
		return nil
	}
	stored := map[string]string{}
	put := func(data string, values ...api.Value) {
		key, _ := bits.Key(values...)
		stored[key] = data
	}
	counter, _ := bits.Row(in(pick[int64](m, 1, 2, 3, 9, math.MaxInt64-1)))
	if m.one(5) {
		counter, _ = bits.Row(in(pick[int64](m, 0, -1, math.MaxInt64)))
	}
	two, _ := bits.Row(in(1), in(1))
	text, _ := bits.Row(tx("1"))
	if m.one(2) {
		put(pick(m, counter, counter, counter, counter, "", "\x01", two, text, counter+"\x00"), in(0))
	}
	u, _ := plan.Define(stmt(t, pick(m, tableTexts()...)), pick[int64](m, 1, 2, 9))
	p, _ := plan.EncodeTable(u)
	put(pick(m, p.Data, p.Data, p.Data, "", p.Data+"\x00", p.Data[1:]), in(0), tx(u.Name))
	for range m.Intn(4) {
		pair, _ := plan.RowPair(u, m.goodRow(u))
		stored[pair.Key] = pick(m, pair.Data, pair.Data, pair.Data, pair.Data, "", pair.Data+"\x00")
	}
	if m.one(5) {
		put("", in(u.Number))
	}
	if m.one(5) {
		put("", in(0), in(pick[int64](m, 1, 2, 3)))
	}
	var rows []api.Row
	for _, key := range slices.Sorted(maps.Keys(stored)) {
		rows = append(rows, api.Row{Key: key, Data: stored[key], Stamp: uint64(m.Intn(int(config.Clock) + 1))})
	}
	return rows
}

// P16.10: statements of several sessions, stepped in any order, step by step against the chapter's lines.
func TestTwins(t *testing.T) {
	var codes, kinds met
	inBatches(t, 4000, func(m *maker) string {
		config := api.Config{Slots: pick(m, 30, 60, 300), Buckets: 1 + m.Intn(4), TxSlots: pick(m, 4, 12, 30, 100), Sessions: 1 + m.Intn(4), Coop: m.Intn(4), Clock: uint64(m.Intn(9))}
		w := newTwins(t, config, m.someRows(t, config)...)
		defer w.close()
		for range m.Intn(4) { // tables to begin with, if there is nothing wrong
			w.start(0, stmt(t, pick(m, tableTexts()...)))
			for done := false; !done; {
				var fault string
				if done, fault = w.step(0); fault != "" {
					return fault
				}
			}
		}
		pace := pick(m, 1, 1, 5, 40)
		for range pick(m, 300, 2500) {
			session := m.Intn(config.Sessions)
			if w.runs[session] == nil {
				s := m.statement(t, w.e, session)
				kinds[max(0, s.Kind)].Add(1)
				w.start(session, s)
			}
			for range 1 + m.Intn(pace) {
				done, fault := w.step(session)
				if fault != "" {
					return fault
				}
				if done {
					break
				}
			}
		}
		for _, r := range w.results {
			codes[r.Code].Add(1)
		}
		return w.same()
	})
	kinds.atLeast(t, 100, api.StCreate, api.StDrop, api.StInsert, api.StSelect, api.StUpdate, api.StDelete, api.StBegin, api.StCommit, api.StRollback)
	codes.atLeast(t, 20, api.OK, api.ErrTree, api.ErrTable, api.ErrExists, api.ErrColumn, api.ErrType, api.ErrDivide, api.ErrOver, api.ErrNotNull, api.ErrPrimary, api.ErrNoTx, api.ErrOpenTx, api.ErrDuplicate, api.ErrConflict, api.ErrFull, api.ErrTxFull, api.ErrRead, api.ErrPhantom, api.ErrDefine)
}
