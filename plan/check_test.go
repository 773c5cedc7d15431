package plan_test

import (
	"fmt"
	"slices"
	"testing"

	"strata/api"
	"strata/plan"
	"strata/tongue"
)

// checkTable is a INT, b TEXT, c BOOL, d INT NOT NULL; the key is a.
func checkTable(t *testing.T) api.Table {
	return define(t, "CREATE TABLE t (a INT, b TEXT, c BOOL, d INT NOT NULL, PRIMARY KEY (a))", 3)
}

// P16.8: each kind of statement with each thing that may be wrong in it, alone and with others.
func TestCheck(t *testing.T) {
	u := checkTable(t)
	for _, c := range []struct {
		text string
		code api.Errno
	}{
		{"INSERT INTO t VALUES (1, 'x', TRUE, 2)", api.OK}, {"INSERT INTO t VALUES (NULL, NULL, NULL, NULL)", api.OK}, {"INSERT INTO t VALUES (1 / 0, 'x' || 'y', 1 < 2, 2)", api.OK}, {"INSERT INTO t (d) VALUES (1)", api.OK}, {"INSERT INTO t (c, b, a) VALUES (TRUE, 'x', 1), (NULL, NULL, NULL)", api.OK}, {"INSERT INTO u VALUES (1, 'x', TRUE, 2)", api.OK},
		{"INSERT INTO t (z) VALUES (1)", api.ErrColumn}, {"INSERT INTO t (a, z) VALUES (1, 1)", api.ErrColumn}, {"INSERT INTO t (a, a) VALUES (1, 1)", api.ErrColumn}, {"INSERT INTO t (a, b, a) VALUES (1)", api.ErrColumn}, {`INSERT INTO t ("A") VALUES (1)`, api.ErrColumn}, {"INSERT INTO t (z) VALUES ('x', y)", api.ErrColumn},
		{"INSERT INTO t VALUES (1, 'x', TRUE)", api.ErrArity}, {"INSERT INTO t VALUES (1, 'x', TRUE, 2, 3)", api.ErrArity}, {"INSERT INTO t (a) VALUES (1, 2)", api.ErrArity}, {"INSERT INTO t (a, b) VALUES (1)", api.ErrArity}, {"INSERT INTO t VALUES (1, 'x', TRUE, 2), (1)", api.ErrArity}, {"INSERT INTO t (a) VALUES (1), (1, 2)", api.ErrArity}, {"INSERT INTO t VALUES (z, 'x', TRUE)", api.ErrArity}, {"INSERT INTO t VALUES (1, 'x', TRUE), ('x', 'x', TRUE, 1)", api.ErrArity},
		{"INSERT INTO t VALUES ('x', 'x', TRUE, 1), (1)", api.ErrType}, {"INSERT INTO t VALUES ('x', 'x', TRUE, 1)", api.ErrType}, {"INSERT INTO t VALUES (1, 1, TRUE, 1)", api.ErrType}, {"INSERT INTO t VALUES (1, 'x', 1, 1)", api.ErrType}, {"INSERT INTO t VALUES (1, 'x', TRUE, TRUE)", api.ErrType}, {"INSERT INTO t (b, a) VALUES (1, 'x')", api.ErrType}, {"INSERT INTO t (b) VALUES ('x'), (1)", api.ErrType}, {"INSERT INTO t VALUES (1 + 'x', 'x', TRUE, 1)", api.ErrType},
		{"INSERT INTO t VALUES (a, 'x', TRUE, 1)", api.ErrColumn}, {"INSERT INTO t (a) VALUES (d)", api.ErrColumn}, {"INSERT INTO t (b) VALUES (a)", api.ErrColumn}, {"INSERT INTO t VALUES (1, 2, a, 1)", api.ErrType}, {"INSERT INTO t VALUES (1, a, 2, 1)", api.ErrColumn},

		{"SELECT * FROM t", api.OK}, {"SELECT * FROM u", api.OK}, {"SELECT a, b || 'x', NOT c AS z, NULL FROM t WHERE c ORDER BY d, a DESC, a LIMIT 0", api.OK}, {"SELECT COUNT(*), COUNT(a), COUNT(b), COUNT(NULL), SUM(a), SUM(NULL), MIN(a), MIN(b), MIN(c), MAX(a), MAX(NULL) FROM t", api.OK}, {"SELECT COUNT(*) FROM t ORDER BY a", api.OK}, {"SELECT * FROM t WHERE NULL", api.OK}, {"SELECT 1 / 0 FROM t WHERE 1 / 0 = 1", api.OK},
		{"SELECT a, COUNT(*) FROM t", api.ErrArity}, {"SELECT MIN(a), a FROM t", api.ErrArity}, {"SELECT COUNT(*), z FROM t", api.ErrArity}, {"SELECT SUM(z), a FROM t WHERE z ORDER BY z", api.ErrArity},
		{"SELECT z FROM t", api.ErrColumn}, {"SELECT a, 1 + b FROM t", api.ErrType}, {"SELECT 1 + b, z FROM t", api.ErrType}, {"SELECT z, 1 + b FROM t", api.ErrColumn}, {"SELECT COUNT(z) FROM t", api.ErrColumn}, {"SELECT COUNT(1 + b) FROM t", api.ErrType}, {"SELECT MIN(z) FROM t", api.ErrColumn},
		{"SELECT SUM(b) FROM t", api.ErrType}, {"SELECT SUM(c) FROM t", api.ErrType}, {"SELECT SUM(z) FROM t", api.ErrColumn}, {"SELECT COUNT(*), SUM(b), COUNT(z) FROM t", api.ErrType}, {"SELECT COUNT(z), SUM(b) FROM t", api.ErrColumn},
		{"SELECT z FROM t WHERE 1", api.ErrColumn}, {"SELECT a FROM t WHERE 1 ORDER BY z", api.ErrType}, {"SELECT a FROM t WHERE z ORDER BY z", api.ErrColumn}, {"SELECT a FROM t WHERE a", api.ErrType}, {"SELECT a FROM t WHERE b", api.ErrType}, {"SELECT a FROM t WHERE 1 = 'x'", api.ErrType}, {"SELECT a FROM t WHERE z = 1", api.ErrColumn}, {"SELECT COUNT(*) FROM t WHERE a", api.ErrType},
		{"SELECT a FROM t ORDER BY z", api.ErrColumn}, {"SELECT a FROM t ORDER BY a, z DESC", api.ErrColumn}, {"SELECT a AS z FROM t ORDER BY z", api.ErrColumn}, {"SELECT COUNT(*) FROM t ORDER BY z", api.ErrColumn}, {`SELECT a FROM t ORDER BY "A"`, api.ErrColumn}, {"SELECT a FROM t ORDER BY a, a DESC", api.OK},

		{"UPDATE t SET b = b || 'x', c = NULL, d = a WHERE c", api.OK}, {"UPDATE t SET b = NULL", api.OK}, {"UPDATE u SET d = 1 / 0 WHERE NULL", api.OK},
		{"UPDATE t SET z = 1", api.ErrColumn}, {"UPDATE t SET b = 'x', b = 'y'", api.ErrColumn}, {"UPDATE t SET z = z", api.ErrColumn}, {"UPDATE t SET a = 1", api.ErrPrimary}, {"UPDATE t SET a = 'x'", api.ErrPrimary}, {"UPDATE t SET a = z", api.ErrPrimary}, {"UPDATE t SET b = 1", api.ErrType}, {"UPDATE t SET b = z", api.ErrColumn}, {"UPDATE t SET b = 1 + 'x'", api.ErrType}, {"UPDATE t SET c = d", api.ErrType},
		{"UPDATE t SET b = 1, a = 1", api.ErrType}, {"UPDATE t SET a = 1, b = 1", api.ErrPrimary}, {"UPDATE t SET b = 'x', b = 1", api.ErrColumn}, {"UPDATE t SET b = 1, b = 1", api.ErrType}, {"UPDATE t SET a = 1, a = 1", api.ErrPrimary}, {"UPDATE t SET b = 1, z = 1", api.ErrType}, {"UPDATE t SET z = 1, b = 1", api.ErrColumn},
		{"UPDATE t SET b = 'x' WHERE 1", api.ErrType}, {"UPDATE t SET b = 'x' WHERE z", api.ErrColumn}, {"UPDATE t SET b = 1 WHERE z", api.ErrType}, {"UPDATE t SET a = 1 WHERE z", api.ErrPrimary},

		{"DELETE FROM t", api.OK}, {"DELETE FROM u WHERE c", api.OK}, {"DELETE FROM t WHERE NULL", api.OK}, {"DELETE FROM t WHERE a", api.ErrType}, {"DELETE FROM t WHERE z", api.ErrColumn}, {"DELETE FROM t WHERE 'x'", api.ErrType}, {"DELETE FROM t WHERE 1 = 'x' OR z", api.ErrType},

		{"COMMIT", api.ErrTree}, {"BEGIN", api.ErrTree}, {"ROLLBACK", api.ErrTree}, {"DROP TABLE t", api.ErrTree}, {"CREATE TABLE t (a INT, PRIMARY KEY (a))", api.ErrTree},
	} {
		s := stmt(t, c.text)
		want(t, "P16.8: Check("+c.text+")", plan.Check(s, u), c.code)
		want(t, "P16.8 a second time: Check("+c.text+")", plainCheck(s, u), c.code)
	}
	for what, s := range wrongStatements(t) {
		want(t, "P16.8: Check of no statement: "+what, plan.Check(s, u), api.ErrTree)
		r, code := plan.Select(s, u, nil)
		want(t, "P16.9: Select of no statement: "+what, list(r, code), list(api.Result{}, api.ErrTree))
	}
}

// wrongStatements are none.
func wrongStatements(t *testing.T) map[string]api.Stmt {
	changed := func(text string, change func(*api.Stmt)) api.Stmt {
		s := stmt(t, text)
		change(&s)
		return s
	}
	const query = "SELECT a FROM t"
	return map[string]api.Stmt{
		"nothing": {}, "kind 10": changed(query, func(s *api.Stmt) { s.Kind = 10 }), "kind -1": changed(query, func(s *api.Stmt) { s.Kind = -1 }), "no table": changed(query, func(s *api.Stmt) { s.Table = "" }), "a long name": changed(query, func(s *api.Stmt) { s.Table = many(33, "t") }), "limit -2": changed(query, func(s *api.Stmt) { s.Limit = -2 }), "a level": changed(query, func(s *api.Stmt) { s.Level = 1 }),
		"names": changed(query, func(s *api.Stmt) { s.Names = []string{"a"} }), "17 items": changed(query, func(s *api.Stmt) { s.Items = slices.Repeat(s.Items, 17) }), "an empty item": changed(query, func(s *api.Stmt) { s.Items[0].Of = nil }), "aggregate 5": changed(query, func(s *api.Stmt) { s.Items[0].Agg = 5 }), "a sum of nothing": changed(query, func(s *api.Stmt) { s.Items[0] = api.Item{Agg: api.AgSum} }), "a wrong where": changed(query, func(s *api.Stmt) { s.Where = api.Expr{{}} }), "a wrong sort": changed(query, func(s *api.Stmt) { s.Order = []api.Sort{{}} }),
		"no rows": changed("INSERT INTO t VALUES (1)", func(s *api.Stmt) { s.Rows = nil }), "an empty row": changed("INSERT INTO t VALUES (1)", func(s *api.Stmt) { s.Rows[0] = nil }), "65 rows": changed("INSERT INTO t VALUES (1)", func(s *api.Stmt) { s.Rows = slices.Repeat(s.Rows, 65) }), "an insert with a where": changed("INSERT INTO t VALUES (1)", func(s *api.Stmt) { s.Where = expr(t, "TRUE") }), "an insert with a limit": changed("INSERT INTO t VALUES (1)", func(s *api.Stmt) { s.Limit = -1 }),
		"no sets": changed("UPDATE t SET b = 1", func(s *api.Stmt) { s.Names, s.Rows = nil, nil }), "two rows of sets": changed("UPDATE t SET b = 1", func(s *api.Stmt) { s.Rows = slices.Repeat(s.Rows, 2) }), "a set too few": changed("UPDATE t SET b = 1, c = 1", func(s *api.Stmt) { s.Rows[0] = s.Rows[0][:1] }), "a delete with a limit": changed("DELETE FROM t", func(s *api.Stmt) { s.Limit = -1 }), "a begin without a level": changed("BEGIN", func(s *api.Stmt) { s.Level = 0 }), "a commit with a table": changed("COMMIT", func(s *api.Stmt) { s.Table = "t" }),
	}
}

// plainFits tells whether an expression is of a kind, or null, and what is wrong if not.
func plainFits(e api.Expr, cols []api.ColDef, kinds ...api.Kind) api.Errno {
	kind, code := plainType(e, cols)
	if code == api.OK && kind != api.KNull && !slices.Contains(kinds, kind) {
		return api.ErrType
	}
	return code
}

// plainCheck tells what is wrong with a statement, by the chapter's lines.
func plainCheck(s api.Stmt, u api.Table) api.Errno {
	if !tongue.Valid(api.Command{Kind: api.CmStmt, Stmt: s}) || !slices.Contains([]int{api.StInsert, api.StSelect, api.StUpdate, api.StDelete}, s.Kind) {
		return api.ErrTree
	}
	if !isPlainTable(u) {
		return api.ErrDefine
	}
	var wrong []api.Errno // all that is wrong, in the chapter's order
	tell := func(code api.Errno) { wrong = append(wrong, code) }
	switch s.Kind {
	case api.StInsert:
		cols := u.Cols
		if len(s.Names) > 0 {
			cols = nil
		}
		for i, name := range s.Names {
			_, c, there := plainColumn(name, u.Cols)
			if !there || slices.Contains(s.Names[:i], name) {
				tell(api.ErrColumn)
			}
			cols = append(cols, c)
		}
		for _, values := range s.Rows {
			if len(values) != len(cols) {
				tell(api.ErrArity)
				continue
			}
			for i, e := range values {
				tell(plainFits(e, nil, cols[i].Type))
			}
		}
	case api.StSelect:
		some, others := 0, 0
		for _, item := range s.Items {
			if item.Agg == api.AgNone {
				others++
			} else {
				some++
			}
		}
		if some > 0 && others > 0 {
			tell(api.ErrArity)
		}
		for _, item := range s.Items {
			switch {
			case item.Agg == api.AgCount && len(item.Of) == 0:
			case item.Agg == api.AgSum:
				tell(plainFits(item.Of, u.Cols, api.KInt))
			default:
				tell(plainFits(item.Of, u.Cols, api.KInt, api.KText, api.KBool))
			}
		}
	case api.StUpdate:
		for i, name := range s.Names {
			place, c, there := plainColumn(name, u.Cols)
			if !there || slices.Contains(s.Names[:i], name) {
				tell(api.ErrColumn)
			}
			if there && slices.Contains(u.Key, place) {
				tell(api.ErrPrimary)
			}
			tell(plainFits(s.Rows[0][i], u.Cols, c.Type))
		}
	}
	if len(s.Where) > 0 {
		tell(plainFits(s.Where, u.Cols, api.KBool))
	}
	for _, sort := range s.Order {
		if _, _, there := plainColumn(sort.Col, u.Cols); !there {
			tell(api.ErrColumn)
		}
	}
	for _, code := range wrong {
		if code != api.OK {
			return code
		}
	}
	return api.OK
}

// columnName is one of a table, or none.
func (m *maker) columnName(u api.Table) string {
	if m.one(40) {
		return "nowhere"
	}
	return pick(m, u.Cols...).Name
}

// query makes a SELECT.
func (m *maker) query(u api.Table) api.Stmt {
	s := api.Stmt{Kind: api.StSelect, Table: u.Name, Limit: -1}
	aggregates := m.one(3)
	for range m.Intn(4) {
		kind := m.kind()
		item := api.Item{Of: m.expr(u.Cols, kind, m.Intn(3)), As: pick(m, "", "", "x")}
		if aggregates != m.one(60) {
			item.Agg = pick(m, api.AgCount, api.AgSum, api.AgMin, api.AgMax)
		}
		if item.Agg == api.AgSum && !m.one(10) {
			item.Of = m.expr(u.Cols, api.KInt, m.Intn(3))
		}
		if item.Agg == api.AgCount && m.one(2) {
			item.Of = nil
		}
		s.Items = append(s.Items, item)
	}
	if m.one(2) {
		s.Where = m.where(u, 1+m.Intn(3))
	}
	s.Order = times(m.Intn(pick(m, 1, 3, 4)), func() api.Sort { return api.Sort{Col: m.columnName(u), Desc: m.one(2)} })
	if m.one(4) {
		s.Limit = pick[int64](m, 0, 1, 2, 3, 5, 100, 1<<62)
	}
	return s
}

// change makes an UPDATE, a DELETE or an INSERT.
func (m *maker) change(u api.Table) api.Stmt {
	s := api.Stmt{Kind: pick(m, api.StInsert, api.StInsert, api.StUpdate, api.StDelete), Table: u.Name}
	if s.Kind != api.StInsert && !m.one(3) {
		s.Where = m.where(u, 1+m.Intn(3))
	}
	value := func(name string, cols []api.ColDef) api.Expr {
		_, c, _ := plainColumn(name, u.Cols)
		if c.NotNull && !m.one(30) {
			return written(m.value(c.Type))
		}
		return m.expr(cols, max(c.Type, 1), m.Intn(3))
	}
	switch s.Kind {
	case api.StUpdate:
		s.Rows = make([][]api.Expr, 1)
		for range 1 + m.Intn(3) {
			name := m.columnName(u)
			if place, _, _ := plainColumn(name, u.Cols); slices.Contains(u.Key, place) && !m.one(30) {
				continue
			}
			s.Names, s.Rows[0] = append(s.Names, name), append(s.Rows[0], value(name, u.Cols))
		}
		if len(s.Names) == 0 {
			s.Kind, s.Rows = api.StDelete, nil
		}
	case api.StInsert:
		var names []string
		for _, place := range m.Perm(len(u.Cols)) {
			if u.Cols[place].NotNull || m.one(2) {
				names = append(names, u.Cols[place].Name)
			}
		}
		if m.one(40) {
			names = append(names, m.columnName(u))
		}
		if s.Names = names; m.one(2) || len(names) > api.MaxList {
			s.Names, names = nil, namesOf(u.Cols)
		}
		for range 1 + m.Intn(3) {
			values := make([]api.Expr, len(names))
			for i, name := range names {
				values[i] = value(name, nil)
			}
			if m.one(60) {
				values = append(values, value(names[0], nil))[:min(len(values)+1, api.MaxList)]
			}
			s.Rows = append(s.Rows, values)
		}
	}
	return s
}

func namesOf(cols []api.ColDef) []string {
	var names []string
	for _, c := range cols {
		names = append(names, c.Name)
	}
	return names
}

// P16.8: statements of any kind, against the chapter's lines written down a second time.
func TestCheckOfMadeUp(t *testing.T) {
	var codes met
	inBatches(t, 60000, func(m *maker) string {
		u := m.table()
		s := m.query(u)
		if m.one(2) {
			s = m.change(u)
		}
		code := plan.Check(s, u)
		codes[code].Add(1)
		if right := plainCheck(s, u); code != right {
			text, _ := tongue.Print(api.Command{Kind: api.CmStmt, Stmt: s})
			return fmt.Sprintf("P16.8: Check(%s, %+v): %d, want %d", text, u, code, right)
		}
		return ""
	})
	codes.atLeast(t, 100, api.OK, api.ErrColumn, api.ErrArity, api.ErrType, api.ErrPrimary)
}
