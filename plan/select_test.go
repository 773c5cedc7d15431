package plan_test

import (
	"fmt"
	"math"
	"math/big"
	"slices"
	"testing"

	"strata/api"
	"strata/plan"
	"strata/tongue"
)

// selects holds what a SELECT answers against the right rows, and against the chapter written down a second time.
func selects(t *testing.T, u api.Table, text string, rows [][]api.Value, code api.Errno, names []string, right ...[]api.Value) {
	t.Helper()
	s := stmt(t, text)
	r, c := plan.Select(s, u, rows)
	whole := api.Result{Names: names, Rows: right, Count: len(right)}
	if code != api.OK {
		whole = api.Result{}
	}
	if len(r.Rows) == 0 {
		r.Rows = nil
	}
	want(t, fmt.Sprintf("P16.9: Select(%s)", text), list(r, c), list(whole, code))
	again, c := plainSelect(s, u, rows)
	want(t, fmt.Sprintf("P16.9 a second time: Select(%s)", text), list(again, c), list(whole, code))
}

func TestSelect(t *testing.T) {
	u := define(t, "CREATE TABLE t (a INT, b TEXT, c BOOL, PRIMARY KEY (a))", 3)
	rows := [][]api.Value{row(in(1), tx("x"), bo(true)), row(in(2), null, bo(false)), row(in(3), tx("x"), null), row(in(4), tx("w"), bo(true))}
	abc := []string{"a", "b", "c"}
	selects(t, u, "SELECT * FROM t", rows, api.OK, abc, rows...)
	selects(t, u, "SELECT * FROM t", nil, api.OK, abc)
	selects(t, u, "SELECT * FROM t WHERE FALSE", rows, api.OK, abc)
	selects(t, u, "SELECT * FROM t WHERE NULL", rows, api.OK, abc)
	selects(t, u, "SELECT * FROM t WHERE c", rows, api.OK, abc, rows[0], rows[3])
	selects(t, u, "SELECT * FROM t WHERE NOT c", rows, api.OK, abc, rows[1])
	selects(t, u, "SELECT * FROM t WHERE b <> 'x'", rows, api.OK, abc, rows[3])
	selects(t, u, "SELECT b AS n, a, a + 1, 'q' AS \"A b\", -(a + 1) * 2 FROM t WHERE a < 3", rows, api.OK, []string{"n", "a", "a + 1", "A b", "-(a + 1) * 2"}, row(tx("x"), in(1), in(2), tx("q"), in(-4)), row(null, in(2), in(3), tx("q"), in(-6)))
	selects(t, u, `SELECT a, a, "a" FROM t WHERE a = 1`, rows, api.OK, []string{"a", "a", "a"}, row(in(1), in(1), in(1)))
	// the order
	selects(t, u, "SELECT a FROM t ORDER BY b", rows, api.OK, []string{"a"}, row(in(2)), row(in(4)), row(in(1)), row(in(3)))
	selects(t, u, "SELECT a FROM t ORDER BY b DESC", rows, api.OK, []string{"a"}, row(in(1)), row(in(3)), row(in(4)), row(in(2)))
	selects(t, u, "SELECT a FROM t ORDER BY b, a DESC", rows, api.OK, []string{"a"}, row(in(2)), row(in(4)), row(in(3)), row(in(1)))
	selects(t, u, "SELECT a FROM t ORDER BY c, b, a", rows, api.OK, []string{"a"}, row(in(3)), row(in(2)), row(in(4)), row(in(1)))
	selects(t, u, "SELECT a FROM t ORDER BY c DESC, b DESC", rows, api.OK, []string{"a"}, row(in(1)), row(in(4)), row(in(2)), row(in(3)))
	selects(t, u, "SELECT a FROM t ORDER BY a, a DESC", rows, api.OK, []string{"a"}, row(in(1)), row(in(2)), row(in(3)), row(in(4)))
	backwards := slices.Clone(rows)
	slices.Reverse(backwards)
	selects(t, u, "SELECT a FROM t ORDER BY b DESC", backwards, api.OK, []string{"a"}, row(in(3)), row(in(1)), row(in(4)), row(in(2)))
	selects(t, u, "SELECT a FROM t", backwards, api.OK, []string{"a"}, row(in(4)), row(in(3)), row(in(2)), row(in(1)))
	same := [][]api.Value{rows[0], rows[0], rows[0]}
	selects(t, u, "SELECT a FROM t ORDER BY a DESC LIMIT 2", same, api.OK, []string{"a"}, row(in(1)), row(in(1)))
	// the limit
	for limit, n := range map[int64]int{0: 0, 1: 1, 3: 3, 4: 4, 5: 4, math.MaxInt64: 4} {
		selects(t, u, fmt.Sprintf("SELECT * FROM t LIMIT %d", limit), rows, api.OK, abc, rows[:n]...)
	}
	selects(t, u, "SELECT 1 / 0 FROM t LIMIT 0", rows, api.OK, []string{"1 / 0"})
	selects(t, u, "SELECT a FROM t WHERE 1 / (a - 4) < 9 LIMIT 1", rows, api.ErrDivide, nil)
	// errors at the first row, the last one, and in items
	selects(t, u, "SELECT * FROM t WHERE 1 / (a - 1) = 1", rows, api.ErrDivide, nil)
	selects(t, u, "SELECT * FROM t WHERE 9223372036854775804 + a > 0 AND 1 / (a - 4) = 1", rows, api.ErrOver, nil)
	selects(t, u, "SELECT * FROM t WHERE 1 / (a - 4) <> 7 AND 9223372036854775804 + a > 0", backwards, api.ErrDivide, nil)
	selects(t, u, "SELECT 10 / (a - 3) FROM t", rows, api.ErrDivide, nil)
	selects(t, u, "SELECT 10 / (a - 3) FROM t LIMIT 2", rows, api.OK, []string{"10 / (a - 3)"}, row(in(-5)), row(in(-10)))
	selects(t, u, "SELECT 10 / (a - 3) FROM t ORDER BY a DESC LIMIT 1", rows, api.OK, []string{"10 / (a - 3)"}, row(in(10)))
	selects(t, u, "SELECT 10 / (a - 3) FROM t ORDER BY a DESC LIMIT 2", rows, api.ErrDivide, nil)
	selects(t, u, "SELECT 9223372036854775803 + a, 1 / (a - 4) FROM t ORDER BY a", rows, api.ErrDivide, nil)
	selects(t, u, "SELECT 9223372036854775804 + a, 1 / (a - 4) FROM t ORDER BY a DESC", rows, api.ErrOver, nil)
	selects(t, u, "SELECT 1 / (a - 4), 9223372036854775804 + a FROM t", backwards, api.ErrDivide, nil)
	selects(t, u, "SELECT 1 / (a - 3), 9223372036854775806 + a FROM t WHERE a < 9", rows, api.ErrOver, nil)
}

func TestAggregates(t *testing.T) {
	u := define(t, "CREATE TABLE t (a INT, b TEXT, c BOOL, d INT, PRIMARY KEY (a))", 3)
	rows := [][]api.Value{row(in(1), tx("x"), bo(true), null), row(in(2), null, bo(false), null), row(in(3), tx("x"), null, null), row(in(4), tx("w"), bo(true), null)}
	const every = "SELECT COUNT(*), COUNT(a), COUNT(b), COUNT(c), COUNT(d), SUM(a), SUM(d), MIN(a), MAX(a), MIN(b), MAX(b), MIN(c), MAX(c), MIN(d), MAX(d) FROM t"
	names := []string{"COUNT(*)", "COUNT(a)", "COUNT(b)", "COUNT(c)", "COUNT(d)", "SUM(a)", "SUM(d)", "MIN(a)", "MAX(a)", "MIN(b)", "MAX(b)", "MIN(c)", "MAX(c)", "MIN(d)", "MAX(d)"}
	right := row(in(4), in(4), in(3), in(3), in(0), in(10), null, in(1), in(4), tx("w"), tx("x"), bo(false), bo(true), null, null)
	selects(t, u, every, rows, api.OK, names, right)
	none := row(in(0), in(0), in(0), in(0), in(0), null, null, null, null, null, null, null, null, null, null)
	selects(t, u, every, nil, api.OK, names, none)
	selects(t, u, every+" WHERE FALSE", rows, api.OK, names, none)
	selects(t, u, every+" WHERE a > 1 AND a < 3 ORDER BY b DESC, a", rows, api.OK, names, row(in(1), in(1), in(0), in(1), in(0), in(2), null, in(2), in(2), null, null, bo(false), bo(false), null, null))
	selects(t, u, every+" LIMIT 0", rows, api.OK, names)
	selects(t, u, every+" LIMIT 1", rows, api.OK, names, right)
	selects(t, u, every+" ORDER BY b LIMIT 9", rows, api.OK, names, right)
	selects(t, u, "SELECT COUNT(*) AS n, SUM(a + 1), COUNT(NULL), MAX(NULL), SUM(NULL), MIN(a > 2) AS \"q q\" FROM t", rows, api.OK, []string{"n", "SUM(a + 1)", "COUNT(NULL)", "MAX(NULL)", "SUM(NULL)", "q q"}, row(in(4), in(14), in(0), null, null, bo(false)))
	// errors, of a row or of the adding up, item by item
	selects(t, u, "SELECT SUM(9223372036854775806 + a) FROM t WHERE a = 1", rows, api.OK, []string{"SUM(9223372036854775806 + a)"}, row(in(math.MaxInt64)))
	selects(t, u, "SELECT SUM(9223372036854775803 + a) FROM t", rows, api.ErrOver, nil)
	selects(t, u, "SELECT SUM(CASE WHEN a = 1 THEN 9223372036854775807 WHEN a = 2 THEN 1 ELSE -5 END) FROM t", rows, api.ErrOver, nil)
	selects(t, u, "SELECT SUM(CASE WHEN a = 1 THEN 9223372036854775807 WHEN a = 2 THEN -5 ELSE 1 END) FROM t", rows, api.OK, []string{"SUM(CASE WHEN a = 1 THEN 9223372036854775807 WHEN a = 2 THEN -5 ELSE 1 END)"}, row(in(math.MaxInt64-3)))
	selects(t, u, "SELECT SUM(CASE WHEN a = 1 THEN -9223372036854775807 - 1 WHEN a = 2 THEN -1 END) FROM t", rows, api.ErrOver, nil)
	selects(t, u, "SELECT SUM(CASE WHEN a < 3 THEN 9223372036854775807 ELSE 1 / (a - 3) END) FROM t", rows, api.ErrOver, nil)
	selects(t, u, "SELECT SUM(CASE WHEN a > 1 THEN 9223372036854775807 ELSE 1 / (a - 1) END) FROM t", rows, api.ErrDivide, nil)
	selects(t, u, "SELECT SUM(CASE WHEN a <> 2 THEN 9223372036854775807 ELSE 1 / (a - 2) END) FROM t", rows, api.ErrDivide, nil)
	selects(t, u, "SELECT COUNT(1 / (a - 4)), SUM(9223372036854775806 + a) FROM t", rows, api.ErrDivide, nil)
	selects(t, u, "SELECT SUM(9223372036854775806 + a), COUNT(1 / (a - 1)) FROM t", rows, api.ErrOver, nil)
	selects(t, u, "SELECT MIN(1 / (a - 4)) FROM t LIMIT 0", rows, api.ErrDivide, nil)
	selects(t, u, "SELECT COUNT(*) FROM t WHERE 1 / (a - 4) = 9", rows, api.ErrDivide, nil)
	selects(t, u, "SELECT MAX(1 / (a - 1)) FROM t WHERE a > 1", rows, api.OK, []string{"MAX(1 / (a - 1))"}, row(in(1)))
}

// P16.9: what is wrong ahead of all, and rows that are none.
func TestSelectRefuses(t *testing.T) {
	u := define(t, "CREATE TABLE t (a INT, b TEXT, PRIMARY KEY (a))", 3)
	good := row(in(1), tx("x"))
	for _, text := range []string{"INSERT INTO t VALUES (1, 'x')", "UPDATE t SET b = 'x'", "DELETE FROM t", "COMMIT", "CREATE TABLE t (a INT, PRIMARY KEY (a))"} {
		r, code := plan.Select(stmt(t, text), api.Table{}, nil)
		want(t, "P16.9: Select("+text+")", list(r, code), list(api.Result{}, api.ErrTree))
	}
	for _, c := range []struct {
		text string
		rows [][]api.Value
		code api.Errno
	}{
		{"SELECT z FROM t", [][]api.Value{{}}, api.ErrColumn}, {"SELECT a FROM t WHERE a", nil, api.ErrType},
		{"SELECT a FROM t", [][]api.Value{good, row(in(1))}, api.ErrArity}, {"SELECT a FROM t", [][]api.Value{nil}, api.ErrArity}, {"SELECT a FROM t", [][]api.Value{row(in(1), tx("x"), null)}, api.ErrArity},
		{"SELECT a FROM t", [][]api.Value{row(null, null)}, api.ErrNotNull}, {"SELECT a FROM t", [][]api.Value{row(tx("x"), null)}, api.ErrType}, {"SELECT a FROM t", [][]api.Value{row(in(1), in(1))}, api.ErrType}, {"SELECT a FROM t", [][]api.Value{good, row(in(1), api.Value{Kind: 9})}, api.ErrValue}, {"SELECT a FROM t", [][]api.Value{row(in(1), tx(many(5000, "x")))}, api.ErrLong}, {"SELECT a FROM t", [][]api.Value{row(in(1), tx(many(600, "x")))}, api.ErrKey},
		{"SELECT 1 / 0 FROM t WHERE 1 / 0 = 1", [][]api.Value{good, row(in(1))}, api.ErrArity}, {"SELECT a FROM t LIMIT 0", [][]api.Value{row(null, null)}, api.ErrNotNull}, {"SELECT a FROM t WHERE FALSE", [][]api.Value{row(in(1), in(1))}, api.ErrType}, {"SELECT a FROM t", [][]api.Value{row(null, null), row(in(1))}, api.ErrNotNull},
	} {
		r, code := plan.Select(stmt(t, c.text), u, c.rows)
		want(t, fmt.Sprintf("P16.9: Select(%s, %.200v)", c.text, c.rows), list(r, code), list(api.Result{}, c.code))
	}
}

// plainSelect answers a SELECT by the chapter's lines.
func plainSelect(s api.Stmt, u api.Table, rows [][]api.Value) (api.Result, api.Errno) {
	if s.Kind != api.StSelect {
		return api.Result{}, api.ErrTree
	}
	if code := plainCheck(s, u); code != api.OK {
		return api.Result{}, code
	}
	var left [][]api.Value
	for _, values := range rows {
		if len(values) != len(u.Cols) {
			return api.Result{}, api.ErrArity
		}
		if code := plainRowCode(u, values); code != api.OK {
			return api.Result{}, code
		}
	}
	for _, values := range rows {
		if len(s.Where) == 0 {
			left = append(left, values)
			continue
		}
		v, code := plainEval(s.Where, u.Cols, values)
		if code != api.OK {
			return api.Result{}, code
		}
		if v == bo(true) {
			left = append(left, values)
		}
	}
	r := api.Result{}
	code := api.OK
	if len(s.Items) > 0 && s.Items[0].Agg != api.AgNone {
		r.Rows, code = plainAggregates(s, u, left)
	} else {
		r.Rows, code = plainItems(s, u, left)
	}
	if code != api.OK {
		return api.Result{}, code
	}
	r.Names, r.Count = plainNames(s, u), len(r.Rows)
	return r, api.OK
}

func plainNames(s api.Stmt, u api.Table) []string {
	if len(s.Items) == 0 {
		return namesOf(u.Cols)
	}
	var names []string
	for _, item := range s.Items {
		text, _ := tongue.PrintExpr(item.Of)
		if len(item.Of) == 0 {
			text = "*"
		}
		if item.Agg != api.AgNone {
			text = []string{"", "COUNT", "SUM", "MIN", "MAX"}[item.Agg] + "(" + text + ")"
		}
		if item.As != "" {
			text = item.As
		}
		names = append(names, text)
	}
	return names
}

// plainItems sorts by putting in one row behind the other, ahead of the first that comes behind it.
func plainItems(s api.Stmt, u api.Table, rows [][]api.Value) ([][]api.Value, api.Errno) {
	var sorted [][]api.Value
	for _, values := range rows {
		at := len(sorted)
		for at > 0 && plainAhead(s, u, values, sorted[at-1]) {
			at--
		}
		sorted = slices.Insert(sorted, at, values)
	}
	var answer [][]api.Value
	for i, values := range sorted {
		if s.Limit >= 0 && int64(i) >= s.Limit {
			break
		}
		if len(s.Items) == 0 {
			answer = append(answer, values)
			continue
		}
		var told []api.Value
		for _, item := range s.Items {
			v, code := plainEval(item.Of, u.Cols, values)
			if code != api.OK {
				return nil, code
			}
			told = append(told, v)
		}
		answer = append(answer, told)
	}
	return answer, api.OK
}

// plainAhead tells whether a row comes ahead of another one.
func plainAhead(s api.Stmt, u api.Table, a, b []api.Value) bool {
	for _, sort := range s.Order {
		place, _, _ := plainColumn(sort.Col, u.Cols)
		x, y := a[place], b[place]
		if x == y {
			continue
		}
		less := x == null || y != null && plainOrder(x, y) < 0
		return less != sort.Desc
	}
	return false
}

func plainAggregates(s api.Stmt, u api.Table, rows [][]api.Value) ([][]api.Value, api.Errno) {
	var answer []api.Value
	for _, item := range s.Items {
		var there []api.Value // what is not NULL
		sum := new(big.Int)
		for _, values := range rows {
			if len(item.Of) == 0 {
				there = append(there, in(1))
				continue
			}
			v, code := plainEval(item.Of, u.Cols, values)
			if code != api.OK {
				return nil, code
			}
			if v == null {
				continue
			}
			there = append(there, v)
			if item.Agg == api.AgSum {
				if sum.Add(sum, big.NewInt(v.Int)); !sum.IsInt64() {
					return nil, api.ErrOver
				}
			}
		}
		v := in(int64(len(there)))
		switch {
		case item.Agg == api.AgCount:
		case len(there) == 0:
			v = null
		case item.Agg == api.AgSum:
			v = in(sum.Int64())
		case item.Agg == api.AgMin:
			v = plainExtreme("least", there)
		default:
			v = plainExtreme("greatest", there)
		}
		answer = append(answer, v)
	}
	if s.Limit == 0 {
		return nil, api.OK
	}
	return [][]api.Value{answer}, api.OK
}

// P16.9: queries of any kind over rows of any kind, against the chapter written down a second time.
func TestSelectOfMadeUp(t *testing.T) {
	var codes, sizes met
	inBatches(t, 60000, func(m *maker) string {
		u := m.table()
		s := m.query(u)
		rows := times(m.Intn(pick(m, 1, 4, 8)), func() []api.Value { return m.goodRow(u) })
		if m.one(10) && len(rows) > 0 {
			rows[m.Intn(len(rows))] = m.row(u)
		}
		for range m.Intn(3) {
			if len(rows) > 0 {
				rows = append(rows, pick(m, rows...))
			}
		}
		r, code := plan.Select(s, u, rows)
		right, c := plainSelect(s, u, rows)
		codes[code].Add(1)
		sizes[min(len(r.Rows), 9)].Add(1)
		if len(r.Rows) == 0 {
			r.Rows = nil
		}
		if code != c || fmt.Sprintf("%+v", r) != fmt.Sprintf("%+v", right) {
			text, _ := tongue.Print(api.Command{Kind: api.CmStmt, Stmt: s})
			return fmt.Sprintf("P16.9: Select(%s, %+v, %v) = %+v, %d, want %+v, %d", text, u, rows, r, code, right, c)
		}
		return ""
	})
	codes.atLeast(t, 100, api.OK, api.ErrColumn, api.ErrArity, api.ErrType, api.ErrDivide, api.ErrOver, api.ErrNotNull)
	sizes.atLeast(t, 300, 0, 1, 2, 3, 4, 5)
}
