package plan_test

import (
	"fmt"
	"slices"
	"testing"

	"strata/api"
	"strata/plan"
	"strata/tongue"
)

// threeCols has a column of each type.
func threeCols() []api.ColDef {
	return []api.ColDef{col("a", api.KInt, false), col("b", api.KText, false), col("c", api.KBool, false)}
}

// ofKind is an expression of a kind, by its letter.
func ofKind(letter byte) api.Expr {
	switch letter {
	case 'b':
		return named("c")
	case 'i':
		return named("a")
	case 't':
		return named("b")
	}
	return written(null)
}

// everyNode is each operation and function, with numbers of operands that it takes.
func everyNode() []api.Node {
	var nodes []api.Node
	add := func(n api.Node, counts ...int) {
		for _, n.N = range counts {
			nodes = append(nodes, n)
		}
	}
	for _, one := range []int{api.ExNeg, api.ExNot, api.ExIsNull, api.ExNotNull} {
		add(op(one), 1)
	}
	for two := api.ExAdd; two <= api.ExLike; two++ {
		add(op(two), 2)
	}
	add(op(api.ExBetween), 3)
	add(op(api.ExIn), 2, 3, 4)
	add(op(api.ExCase), 3, 5)
	for _, name := range []string{"abs", "length", "lower", "upper"} {
		add(call(name), 1)
	}
	add(call("nullif"), 2)
	add(call("substr"), 3)
	for _, name := range []string{"coalesce", "least", "greatest"} {
		add(call(name), 1, 2, 3)
	}
	return nodes
}

// P16.4: each row of the table, with operands of each kind.
func TestKindsOfOperations(t *testing.T) {
	cols, fits, refused := threeCols(), 0, 0
	for _, n := range everyNode() {
		for kinds := range power(4, n.N) {
			of := ""
			var operands []api.Expr
			for range n.N {
				of += letters[kinds%4 : kinds%4+1]
				operands = append(operands, ofKind(letters[kinds%4]))
				kinds /= 4
			}
			e := over(n, operands...)
			kind, code := plan.TypeOf(e, cols)
			letter := plainKindOf(n, of)
			if letter == "" {
				refused++
				want(t, fmt.Sprintf("P16.4: %s of %s", opWord(n), of), list(kind, code), list(api.KNull, api.ErrType))
				continue
			}
			fits++
			want(t, fmt.Sprintf("P16.4: %s of %s", opWord(n), of), list(letters[kind:kind+1], code), list(letter, api.OK))
		}
	}
	if fits < 300 || refused < 1500 {
		t.Errorf("P16.4: %d fit, %d do not", fits, refused)
	}
}

func power(base, n int) int {
	p := 1
	for range n {
		p *= base
	}
	return p
}

// P16.4: lines of the table, and the first of several errors.
func TestTypeOf(t *testing.T) {
	cols := threeCols()
	for _, c := range []struct {
		text string
		kind api.Kind
		code api.Errno
	}{
		{"1", api.KInt, api.OK}, {"'x'", api.KText, api.OK}, {"NULL", api.KNull, api.OK}, {"TRUE", api.KBool, api.OK}, {"FALSE", api.KBool, api.OK}, {"a", api.KInt, api.OK}, {"b", api.KText, api.OK}, {"c", api.KBool, api.OK},
		{"NULL + NULL", api.KInt, api.OK}, {"coalesce(NULL)", api.KNull, api.OK}, {"coalesce(NULL, NULL)", api.KNull, api.OK}, {"least(NULL, b)", api.KText, api.OK}, {"nullif(NULL, c)", api.KBool, api.OK}, {"-NULL", api.KInt, api.OK}, {"NOT NULL", api.KBool, api.OK},
		{"CASE WHEN NULL THEN NULL END", api.KNull, api.OK}, {"CASE WHEN NULL THEN NULL ELSE 'x' END", api.KText, api.OK}, {"CASE WHEN c THEN NULL WHEN c THEN 1 END", api.KInt, api.OK}, {"CASE WHEN c THEN 1 WHEN c THEN 'x' END", 0, api.ErrType}, {"CASE WHEN 1 THEN 1 END", 0, api.ErrType},
		{"1 = 'x'", 0, api.ErrType}, {"NULL = 'x'", api.KBool, api.OK}, {"a = c", 0, api.ErrType}, {"z", 0, api.ErrColumn}, {`"A"`, 0, api.ErrColumn},
		{"z = 1 AND 1 = 'x'", 0, api.ErrColumn}, {"1 = 'x' AND z = 1", 0, api.ErrType}, {"(1 = 'x') = z", 0, api.ErrType}, {"z = (1 = 'x')", 0, api.ErrColumn}, {"a + z", 0, api.ErrColumn}, {"b + z", 0, api.ErrColumn}, {"-b + z", 0, api.ErrType}, {"coalesce(1, 'x', z)", 0, api.ErrColumn}, {"coalesce(coalesce(1, 'x'), z)", 0, api.ErrType},
		{"a IN (1, NULL)", api.KBool, api.OK}, {"a IN (1, 'x')", 0, api.ErrType}, {"NULL IN (1, 'x')", 0, api.ErrType}, {"a BETWEEN NULL AND NULL", api.KBool, api.OK}, {"NULL BETWEEN 1 AND 'x'", 0, api.ErrType}, {"c < TRUE", api.KBool, api.OK},
		{"substr(NULL, NULL, NULL)", api.KText, api.OK}, {"substr(b, b, 1)", 0, api.ErrType}, {"substr(b, 1, b)", 0, api.ErrType}, {"substr(1, 1, 1)", 0, api.ErrType}, {"a IS NULL", api.KBool, api.OK}, {"b IS NOT NULL", api.KBool, api.OK}, {"abs(NULL)", api.KInt, api.OK}, {"length(a)", 0, api.ErrType}, {"a AND c", 0, api.ErrType}, {"a || b", 0, api.ErrType},
	} {
		kind, code := plan.TypeOf(expr(t, c.text), cols)
		want(t, "P16.4: TypeOf("+c.text+")", list(kind, code), list(c.kind, c.code))
	}
}

// P16.4: columns named twice, and those of no type.
func TestColumnsOfAnyKind(t *testing.T) {
	twice := []api.ColDef{col("a", api.KText, false), col("a", api.KInt, false), col("b", 7, false), col("b", api.KInt, false), col("c", api.KNull, false), col("d", -1, false), col("", api.KInt, false)}
	for _, c := range []struct {
		text string
		kind api.Kind
		code api.Errno
	}{{"a", api.KText, api.OK}, {"a = 'x'", api.KBool, api.OK}, {"a = 1", 0, api.ErrType}, {"b", 0, api.ErrType}, {"c", 0, api.ErrType}, {"d", 0, api.ErrType}, {"e", 0, api.ErrColumn}, {"1", api.KInt, api.OK}, {"e = b", 0, api.ErrColumn}, {"b = e", 0, api.ErrType}} {
		kind, code := plan.TypeOf(expr(t, c.text), twice)
		want(t, "P16.4: TypeOf("+c.text+")", list(kind, code), list(c.kind, c.code))
	}
	v, code := plan.Eval(expr(t, "a || 'y'"), twice[:2], row(tx("x"), in(1)))
	want(t, "P16.5: the first column of that name", list(v, code), list(tx("xy"), api.OK))
	v, code = plan.Eval(expr(t, "1"), twice[2:6], row(null, in(1), null, null))
	want(t, "P16.5: columns of no type that are not asked for", list(v, code), list(in(1), api.OK))
	for i, c := range []api.Errno{api.ErrType, api.OK, api.ErrType, api.ErrType} {
		values := row(null, in(1), null, null)
		values[i] = in(2)
		_, code = plan.Eval(expr(t, "1"), twice[2:6], values)
		want(t, "P16.5: a value in a column of no type", code, c)
	}
	kind, code := plan.TypeOf(expr(t, "1 + 1"), nil)
	want(t, "P16.4: no columns", list(kind, code), list(api.KInt, api.OK))
	_, code = plan.TypeOf(expr(t, "a"), nil)
	want(t, "P16.4: no columns", code, api.ErrColumn)
}

// wrongExprs are lists that are no expressions.
func wrongExprs() []api.Expr {
	deep := written(in(1))
	for range 34 {
		deep = over(op(api.ExNeg), deep)
	}
	return []api.Expr{nil, {}, {{}}, {op(api.ExAdd)}, {{Op: api.ExAdd, N: 2}}, append(written(in(1)), written(in(2))...), {{Op: api.ExInt, Num: -1}}, {{Op: api.ExInt, Text: "x"}}, {{Op: api.ExCol}}, {{Op: api.ExCol, Text: many(33, "c")}}, {{Op: api.ExText, Text: many(api.MaxText+1, "x")}}, over(call("sqrt"), written(in(1))), over(call("abs")), over(call("abs"), written(in(1)), written(in(1))), over(op(api.ExCase), written(in(1)), written(in(1))), {{Op: 30}}, {{Op: -1}}, {{Op: api.ExInt, N: 1}}, over(op(api.ExIn), slices.Repeat([]api.Expr{written(in(1))}, 18)...), deep}
}

// P16.4, P16.5, P16.7: what is no expression is ErrTree, ahead of all else.
func TestNoExpression(t *testing.T) {
	u := aTable()
	for i, e := range wrongExprs() {
		kind, code := plan.TypeOf(e, nil)
		want(t, fmt.Sprint("P16.4: TypeOf of none, ", i), list(kind, code), list(api.KNull, api.ErrTree))
		v, code := plan.Eval(e, threeCols(), nil)
		want(t, fmt.Sprint("P16.5: Eval of none, ", i), list(v, code), list(null, api.ErrTree))
		low, high, code := plan.Bounds(u, e)
		if len(e) == 0 {
			want(t, "P16.7: no condition", list(low, high, code), list("\x39\x05", "\x39\x06", api.OK))
			continue
		}
		want(t, fmt.Sprint("P16.7: Bounds of none, ", i), list(low, high, code), list("", "", api.ErrTree))
		for _, s := range []api.Stmt{{Kind: api.StDelete, Table: "t", Where: e}, {Kind: api.StSelect, Table: "t", Limit: -1, Items: []api.Item{{Of: e}}}, {Kind: api.StInsert, Table: "t", Rows: [][]api.Expr{{e}}}, {Kind: api.StUpdate, Table: "t", Names: []string{"b"}, Rows: [][]api.Expr{{e}}}} {
			want(t, "P16.8: Check of none", plan.Check(s, u), api.ErrTree)
		}
	}
}

// P16.4: expressions of any kind, against the chapter's table written down a second time.
func TestTypesOfMadeUp(t *testing.T) {
	var codes met
	inBatches(t, 40000, func(m *maker) string {
		cols := m.columns(m.Intn(5))
		if m.one(4) && len(cols) > 1 {
			cols[0].Name = cols[1].Name
		}
		if m.one(9) && len(cols) > 0 {
			cols[0].Type = api.Kind(m.Intn(7) - 1)
		}
		e := m.expr(cols, api.Kind(m.Intn(4)), m.Intn(5))
		if m.one(9) {
			e[m.Intn(len(e))].Op = m.Intn(31)
		}
		kind, code := plan.TypeOf(e, cols)
		codes[code].Add(1)
		if k, c := plainType(e, cols); kind != k || code != c {
			text, _ := tongue.PrintExpr(e)
			return fmt.Sprintf("P16.4: TypeOf(%s, %+v) = %d, %d, want %d, %d", text, cols, kind, code, k, c)
		}
		return ""
	})
	codes.atLeast(t, 200, api.OK, api.ErrType, api.ErrColumn, api.ErrTree)
}
