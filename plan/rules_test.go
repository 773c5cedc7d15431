package plan_test

import (
	"fmt"
	"reflect"
	"slices"
	"sync"
	"testing"

	"strata/api"
	"strata/engine"
	"strata/plan"
	"strata/tongue"
)

// wild makes up anything that may be handed in, of a type.
func (m *maker) wild(v reflect.Value, depth int) {
	switch v.Kind() {
	case reflect.Struct:
		for i := range v.NumField() {
			if m.one(2) {
				m.wild(v.Field(i), depth)
			}
		}
	case reflect.Slice:
		n := pick(m, 0, 0, 1, 2, 3)
		if m.one(10 << depth) {
			n = pick(m, 8, 9, 16, 17, 64, 65)
		}
		list := reflect.MakeSlice(v.Type(), n, n+m.Intn(3))
		for i := range n {
			m.wild(list.Index(i), depth+1)
		}
		v.Set(list)
	case reflect.Bool:
		v.SetBool(m.one(2))
	case reflect.String:
		v.SetString(pick(m, "", "a", "b", "abs", "\x00", "\xff", m.text(), many(33, "n"), many(170, "k"), many(600, "d"), many(5000, "t")))
	default:
		v.SetInt(int64(pick(m, strange()...)))
		if !m.one(4) {
			v.SetInt(int64(m.Intn(pick(m, 3, 13, 30))))
		}
	}
}

// anything makes up a thing of a type.
func anything[T any](m *maker) (v T) {
	m.wild(reflect.ValueOf(&v).Elem(), 0)
	return v
}

// someTable is a table, or one that is wrong in something, or anything.
func (m *maker) someTable() api.Table {
	if m.one(8) {
		return anything[api.Table](m)
	}
	u := m.table()
	if m.one(6) {
		v := reflect.ValueOf(&u).Elem().Field(m.Intn(4))
		m.wild(v, 1)
	}
	return u
}

// someExpr is an expression over columns, or anything.
func (m *maker) someExpr(cols []api.ColDef) api.Expr {
	switch {
	case m.one(8):
		return anything[api.Expr](m)
	case m.one(8):
		return nil
	}
	e := m.expr(cols, api.Kind(m.Intn(4)), m.Intn(4))
	if m.one(8) {
		e[m.Intn(len(e))] = anything[api.Node](m)
	}
	return e
}

// someStmt is a statement over a table, or one that is wrong in something, or anything.
func (m *maker) someStmt(u api.Table) api.Stmt {
	if m.one(8) || len(u.Cols) == 0 || !isPlainTable(u) {
		return anything[api.Stmt](m)
	}
	s := m.query(u)
	switch m.Intn(4) {
	case 0:
		s = m.change(u)
	case 1:
		s = api.Stmt{Kind: api.StCreate, Table: u.Name, Cols: u.Cols, Key: namesOf(u.Cols)[:1]}
	case 2:
		s = api.Stmt{Kind: api.StBegin, Level: 1 + m.Intn(4)}
	}
	if m.one(6) {
		v := reflect.ValueOf(&s).Elem()
		m.wild(v.Field(m.Intn(v.NumField())), 1)
	}
	return s
}

// asked is what the calls that keep nothing are asked, and what they answer.
type asked struct {
	u      api.Table
	s      api.Stmt
	e      api.Expr
	cols   []api.ColDef
	values []api.Value
	rows   [][]api.Value
	pair   api.Pair
	number int64
}

func (m *maker) asked() asked {
	u := m.someTable()
	a := asked{u: u, s: m.someStmt(u), e: m.someExpr(u.Cols), cols: u.Cols, number: int64(pick(m, strange()...))}
	if m.one(3) {
		a.cols = anything[[]api.ColDef](m)
	}
	a.values = anything[[]api.Value](m)
	if !m.one(3) {
		a.values = m.row(u)
	}
	a.rows = times(m.Intn(4), func() []api.Value { return m.row(u) })
	if m.one(5) {
		a.rows = append(a.rows, anything[[]api.Value](m))
	}
	a.pair = anything[api.Pair](m)
	if p, code := plan.EncodeTable(u); code == api.OK && m.one(3) {
		a.pair = p
	} else if p, code := plan.RowPair(u, a.values); code == api.OK {
		a.pair = p
	}
	return a
}

// answers asks all calls that keep nothing.
func (a asked) answers() []any {
	t, e1 := plan.Define(a.s, a.number)
	p, e2 := plan.EncodeTable(a.u)
	v, e3 := plan.DecodeTable(a.pair)
	q, e4 := plan.RowPair(a.u, a.values)
	r, e5 := plan.PairRow(a.u, a.pair)
	k, e6 := plan.TypeOf(a.e, a.cols)
	x, e7 := plan.Eval(a.e, a.cols, a.values)
	is := plan.Like(a.pair.Key, a.pair.Data)
	low, high, e8 := plan.Bounds(a.u, a.e)
	e9 := plan.Check(a.s, a.u)
	y, e10 := plan.Select(a.s, a.u, a.rows)
	return []any{t, e1, p, e2, v, e3, q, e4, r, e5, k, e6, x, e7, is, low, high, e8, e9, y, e10}
}

// P0.1: no call panics, whatever it is given; beside an error all else is zero; and the answers are those of the chapter written down a second time.
func TestNoPanics(t *testing.T) {
	var codes met
	inBatches(t, 40000, func(m *maker) string {
		a := m.asked()
		answers := a.answers()
		last := 0
		for i, x := range answers {
			code, is := x.(api.Errno)
			if !is {
				continue
			}
			codes[code].Add(1)
			if code != api.OK {
				for _, beside := range answers[last:i] {
					if _, free := beside.(bool); !free && !reflect.ValueOf(beside).IsZero() { // Like answers no error
						return fmt.Sprintf("P0.1: beside the error %d: %+v", code, beside)
					}
				}
			}
			last = i + 1
		}
		tableCode := map[bool]api.Errno{true: api.OK, false: api.ErrDefine}[isPlainTable(a.u)]
		if code := answers[3].(api.Errno); code != tableCode && code != api.ErrLong {
			return fmt.Sprintf("P16.2: EncodeTable(%+v): %d", a.u, code)
		}
		kind, code := plainType(a.e, a.cols)
		if answers[10] != kind || answers[11] != code {
			return fmt.Sprintf("P16.4: TypeOf(%+v, %+v): %v, %v", a.e, a.cols, answers[10], answers[11])
		}
		v, code := plainEval(a.e, a.cols, a.values)
		if answers[12] != v || answers[13] != code {
			return fmt.Sprintf("P16.5: Eval(%+v, %+v, %+v): %v, %v, want %v, %d", a.e, a.cols, a.values, answers[12], answers[13], v, code)
		}
		if right := plainCheck(a.s, a.u); answers[18] != right {
			return fmt.Sprintf("P16.8: Check(%+v, %+v): %v, want %d", a.s, a.u, answers[18], right)
		}
		return ""
	})
	codes.atLeast(t, 100, api.OK, api.ErrTree, api.ErrDefine, api.ErrArg, api.ErrArity, api.ErrValue, api.ErrLong, api.ErrType, api.ErrColumn, api.ErrNotNull)
}

// P0.1: machines of any statement in any session, stepped in any order, with calls of the same sessions made by hand in between: none panics, and each ends.
func TestMeddling(t *testing.T) {
	inBatches(t, 1500, func(m *maker) string {
		e := engineOf(t, api.Config{Slots: pick(m, 5, 60), Buckets: 1 + m.Intn(3), TxSlots: pick(m, 2, 8), Sessions: 2, Coop: m.Intn(3)})
		plan.Do(e, 0, stmt(t, pick(m, tableTexts()...)))
		var runs []*plan.Run
		steps := map[*plan.Run]int{}
		for range 300 {
			session := m.Intn(3)
			switch m.Intn(12) {
			case 0:
				s := m.statement(t, e, session)
				if m.one(4) {
					s = m.someStmt(m.table())
				}
				runs = append(runs, plan.NewRun(e, session, s))
			case 1:
				e.Step(session)
			case 2:
				e.Run(session, m.Intn(60))
			case 3:
				e.Take(session)
			case 4:
				e.Start(session, api.Call{Kind: 1 + m.Intn(9), Iso: 1 + m.Intn(4), Key: pick(m, "", "a", key(in(0)), key(in(0), tx("t"))), Data: pick(m, "", data(in(1))), Count: 1})
			case 5:
				if m.one(20) {
					plan.Do(e, session, m.statement(t, e, session))
				}
			default:
				if len(runs) > 0 {
					r := pick(m, runs...)
					before := e.Accesses()
					done := r.Step()
					if steps[r]++; e.Accesses() > before+1 || steps[r] > 2000 {
						return "P16.10: a step makes more than one access, or there is no end"
					}
					if !done && e.Accesses() == before {
						return "P0.2: a step that is not the last makes no access"
					}
					r.Result()
				}
			}
		}
		if e.Base().Misses() != 0 {
			return "P0.3: misses"
		}
		return ""
	})
}

// roomy copies a thing with room behind each list, which must stay empty.
func roomy(v reflect.Value) reflect.Value {
	switch v.Kind() {
	case reflect.Struct:
		c := reflect.New(v.Type()).Elem()
		for i := range v.NumField() {
			c.Field(i).Set(roomy(v.Field(i)))
		}
		return c
	case reflect.Slice:
		c := reflect.MakeSlice(v.Type(), v.Len()+3, v.Len()+3)
		for i := range v.Len() {
			c.Index(i).Set(roomy(v.Index(i)))
		}
		return c.Slice(0, v.Len())
	}
	return v
}

func roomyOf[T any](v T) T { return roomy(reflect.ValueOf(v)).Interface().(T) }

// clean tells whether the room behind each list is still empty.
func clean(v reflect.Value) bool {
	switch v.Kind() {
	case reflect.Struct:
		for i := range v.NumField() {
			if !clean(v.Field(i)) {
				return false
			}
		}
	case reflect.Slice:
		full := v.Slice(0, v.Cap())
		for i := range full.Len() {
			if i >= v.Len() && !full.Index(i).IsZero() || i < v.Len() && !clean(full.Index(i)) {
				return false
			}
		}
	}
	return true
}

// roomyAsked is what is asked, with room behind each list.
func roomyAsked(a asked) asked {
	return asked{roomyOf(a.u), roomyOf(a.s), roomyOf(a.e), roomyOf(a.cols), roomyOf(a.values), roomyOf(a.rows), a.pair, a.number}
}

// P0.1: what is handed in is not changed, nor the room behind it.
func TestWhatIsHandedInIsNotChanged(t *testing.T) {
	inBatches(t, 10000, func(m *maker) string {
		a := roomyAsked(m.asked())
		before := fmt.Sprintf("%+v", a)
		a.answers()
		e := engineOf(t, api.Config{Slots: 60, Buckets: 2, TxSlots: 8, Sessions: 1})
		create := roomyOf(stmt(t, pick(m, tableTexts()...)))
		ss := []api.Stmt{create, a.s, roomyOf(m.statement(t, e, 0))}
		also := fmt.Sprintf("%+v", ss)
		plan.Do(e, 0, ss...)
		r := plan.NewRun(e, 0, a.s)
		for range 1000 {
			if r.Step() {
				break
			}
		}
		room := []reflect.Value{reflect.ValueOf(a.u), reflect.ValueOf(a.s), reflect.ValueOf(a.e), reflect.ValueOf(a.cols), reflect.ValueOf(a.values), reflect.ValueOf(a.rows)}
		for _, s := range ss {
			room = append(room, reflect.ValueOf(s))
		}
		if fmt.Sprintf("%+v", a) != before || fmt.Sprintf("%+v", ss) != also || slices.ContainsFunc(room, func(v reflect.Value) bool { return !clean(v) }) {
			return fmt.Sprintf("P0.1: %s is changed: %+v", before, a)
		}
		return ""
	})
}

// rooms tells where the lists of an answer lie, with the room behind them.
func rooms(v reflect.Value) (list [][2]uintptr) {
	switch v.Kind() {
	case reflect.Struct:
		for i := range v.NumField() {
			list = append(list, rooms(v.Field(i))...)
		}
	case reflect.Slice:
		if v.Cap() > 0 {
			list = append(list, [2]uintptr{v.Pointer(), v.Pointer() + uintptr(v.Cap())*v.Type().Elem().Size()})
		}
		for i := range v.Len() {
			list = append(list, rooms(v.Index(i))...)
		}
	}
	return list
}

// spoil writes over all lists of an answer, and behind them, the inner ones first.
func spoil(v reflect.Value) {
	switch v.Kind() {
	case reflect.Struct:
		for i := range v.NumField() {
			spoil(v.Field(i))
		}
	case reflect.Slice:
		full := v.Slice(0, v.Cap())
		for i := range full.Len() {
			spoil(full.Index(i))
			full.Index(i).SetZero()
		}
	}
}

// apart tells whether no two lists lie in one place.
func apart(places [][2]uintptr) bool {
	slices.SortFunc(places, func(a, b [2]uintptr) int { return int(a[0]) - int(b[0]) })
	for i := 1; i < len(places); i++ {
		if places[i][0] < places[i-1][1] {
			return false
		}
	}
	return true
}

// P0.1: each list that is answered is new memory, all through: it lies in no place of an argument, or of another answer.
func TestAnswersAreNewMemory(t *testing.T) {
	lists := 0
	for seed := range int64(3000) {
		a := roomyAsked(newMaker(seed).asked())
		a.cols = roomyOf(a.cols)
		first, second := a.answers(), a.answers()
		var places [][2]uintptr
		for _, x := range append(slices.Clone(first), second...) {
			places = append(places, rooms(reflect.ValueOf(x))...)
		}
		lists += len(places)
		for _, x := range []any{a.u, a.s, a.e, a.cols, a.values, a.rows} {
			places = append(places, rooms(reflect.ValueOf(x))...)
		}
		if !apart(places) {
			t.Fatalf("P0.1: seed %d: two lists lie in one place", seed)
		}
		right := fmt.Sprintf("%+v", second)
		for _, x := range first {
			spoil(reflect.ValueOf(x))
		}
		want(t, "P0.1: another answer", fmt.Sprintf("%+v", second), right)
		want(t, "P0.1: a later answer", fmt.Sprintf("%+v", a.answers()), right)
	}
	if lists < 3000 {
		t.Errorf("only %d lists were looked at", lists)
	}
}

// P0.1: so are the results of machines, asked as often as may be, and those of Do.
func TestResultsAreNewMemory(t *testing.T) {
	e := filled(t)
	s := stmt(t, "SELECT a, b AS n, c FROM t WHERE a > 0 ORDER BY c")
	m := plan.NewRun(e, 0, s)
	for !m.Step() {
	}
	rs, _ := plan.Do(e, 0, s, s)
	all := append([]api.Result{m.Result(), m.Result(), m.Result()}, rs...)
	if places := rooms(reflect.ValueOf(all)); len(places) != 1+5*5 || !apart(places) {
		t.Errorf("P0.1: results lie in one place: %v", places)
	}
	right := fmt.Sprintf("%+v", m.Result())
	for _, r := range all {
		spoil(reflect.ValueOf(r))
	}
	want(t, "P0.1: the result again", fmt.Sprintf("%+v", m.Result()), right)
	r := doesOne(t, e, 0, "SELECT a, b AS n, c FROM t WHERE a > 0 ORDER BY c")
	want(t, "P0.1: the rows again", list(r.Names, r.Rows), list(m.Result().Names, m.Result().Rows))
}

// P0.1: the same arguments get the same answers, and engines have nothing in common; several goroutines may call at the same time.
func TestTheSameAnswers(t *testing.T) {
	var group sync.WaitGroup
	var lock sync.Mutex
	told := map[int]string{}
	for worker := range int64(4) {
		group.Go(func() {
			for _, seed := range newMaker(worker).Perm(300) {
				m := newMaker(int64(seed))
				answers := m.asked().answers()
				e, _ := engine.New(api.Config{Slots: 300, Buckets: 2, TxSlots: 30, Sessions: 1})
				text := fmt.Sprintf("%+v", answers)
				for range 12 {
					s := m.statement(t, e, 0)
					rs, code := plan.Do(e, 0, s)
					print, _ := tongue.Print(api.Command{Kind: api.CmStmt, Stmt: s})
					text += fmt.Sprintf("%s%+v %d\n", print, rs, code)
				}
				lock.Lock()
				if old := told[seed]; old != "" && old != text {
					t.Errorf("P0.1: seed %d: %s and %s", seed, old, text)
				}
				told[seed] = text
				lock.Unlock()
			}
		})
	}
	group.Wait()
}
