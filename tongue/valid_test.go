package tongue_test

import (
	"fmt"
	"math"
	"reflect"
	"slices"
	"strings"
	"testing"

	"strata/api"
	"strata/tongue"
)

// is holds whether a command is valid against what is right; Print tells the same.
func is(t *testing.T, what string, c api.Command, right bool) {
	t.Helper()
	want(t, fmt.Sprintf("P15.7: %s: %.300v", what, c), tongue.Valid(c), right)
	text, e := tongue.Print(api.Command{Kind: api.CmDrain}, c, api.Command{Kind: api.CmDrain})
	if right {
		want(t, "P15.8: "+what, []any{text != "", e}, []any{true, api.OK})
	} else {
		want(t, "P15.8: "+what, []any{text, e}, []any{"", api.ErrTree})
	}
}

// ofKinds gives a valid command of each kind, and of each kind of statement.
func ofKinds() (list []api.Command) {
	e := expr(num(1))
	for kind := api.CmPlay; kind <= api.CmCut; kind++ {
		list = append(list, api.Command{Kind: kind})
	}
	for _, s := range []api.Stmt{
		{Kind: api.StCreate, Table: "t", Cols: []api.ColDef{{Name: "a", Type: api.KInt}}, Key: []string{"a"}},
		{Kind: api.StDrop, Table: "t"},
		{Kind: api.StInsert, Table: "t", Rows: [][]api.Expr{{e}}},
		{Kind: api.StSelect, Table: "t"},
		{Kind: api.StUpdate, Table: "t", Names: []string{"a"}, Rows: [][]api.Expr{{e}}},
		{Kind: api.StDelete, Table: "t"},
		{Kind: api.StBegin, Level: api.Snapshot},
		{Kind: api.StCommit}, {Kind: api.StRollback},
	} {
		list = append(list, statement(s))
	}
	return list
}

// P15.7: the kinds of commands and statements.
func TestKinds(t *testing.T) {
	for _, c := range ofKinds() {
		is(t, "a plain one", c, true)
		for _, n := range strange() {
			other := c
			other.Kind = n
			is(t, "another kind", other, plainValid(other))
			other = c
			other.Stmt.Kind = n
			is(t, "another statement", other, plainValid(other))
		}
	}
	is(t, "nothing", api.Command{}, false)
	is(t, "kind 13", api.Command{Kind: 13}, false)
	is(t, "no statement", api.Command{Kind: api.CmStmt}, false)
	is(t, "statement 10", statement(api.Stmt{Kind: 10}), false)
	is(t, "a statement's kind within another command", api.Command{Kind: api.CmDrain, Stmt: api.Stmt{Kind: api.StCommit}}, false)
}

// P15.7: each field, set alone in each kind: only those may be set that the kind has. Lists without entries count as none.
func TestFieldsOfOthers(t *testing.T) {
	e := expr(num(1))
	commands := map[string]func(c *api.Command){
		"Who": func(c *api.Command) { c.Who = 1 }, "Num": func(c *api.Command) { c.Num = 1 }, "Bytes": func(c *api.Command) { c.Bytes = "b" }, "Keep": func(c *api.Command) { c.Keep = []int{0} },
		"Table": func(c *api.Command) { c.Stmt.Table = "u" }, "Cols": func(c *api.Command) { c.Stmt.Cols = []api.ColDef{{Name: "b", Type: api.KText}} }, "Key": func(c *api.Command) { c.Stmt.Key = []string{"b"} }, "Names": func(c *api.Command) { c.Stmt.Names = []string{"b"} },
		"Rows": func(c *api.Command) { c.Stmt.Rows = [][]api.Expr{{e}} }, "Items": func(c *api.Command) { c.Stmt.Items = []api.Item{{Of: e}} }, "Where": func(c *api.Command) { c.Stmt.Where = e }, "Order": func(c *api.Command) { c.Stmt.Order = []api.Sort{{Col: "b"}} },
		"Limit": func(c *api.Command) { c.Stmt.Limit = 1 }, "NoLimit": func(c *api.Command) { c.Stmt.Limit = -1 }, "Level": func(c *api.Command) { c.Stmt.Level = 1 },
	}
	has := map[int]string{api.CmPlay: "Bytes", api.CmTick: "Num", api.CmMerge: "Num", api.CmCut: "Num", api.CmCrash: "Keep"}
	statements := map[int]string{api.StCreate: "Table Cols Key", api.StDrop: "Table", api.StInsert: "Table Names Rows", api.StSelect: "Table Items Where Order Limit NoLimit", api.StUpdate: "Table Names Rows Where", api.StDelete: "Table Where", api.StBegin: "Level"}
	for _, c := range ofKinds() {
		may := has[c.Kind]
		if c.Kind == api.CmStmt {
			may = "Who " + statements[c.Stmt.Kind]
		}
		for field, set := range commands {
			changed := copied(c)
			set(&changed)
			right := slices.Contains(strings.Fields(may), field)
			is(t, fmt.Sprintf("%s of command %d, statement %d", field, c.Kind, c.Stmt.Kind), changed, right)
			want(t, "the test's own "+field, plainValid(changed), right)
		}
		empty := c
		if len(c.Keep) == 0 {
			empty.Keep = []int{}
		}
		v := reflect.ValueOf(&empty.Stmt).Elem()
		for i := range v.NumField() {
			if f := v.Field(i); f.Kind() == reflect.Slice && f.Len() == 0 {
				f.Set(reflect.MakeSlice(f.Type(), 0, 3))
			}
		}
		is(t, "empty lists", empty, true)
	}
}

// P15.7: numbers, from both sides of their bounds.
func TestNumbers(t *testing.T) {
	for _, n := range strange() {
		is(t, "Who", api.Command{Kind: api.CmStmt, Who: n, Stmt: api.Stmt{Kind: api.StCommit}}, n >= 0)
		for _, kind := range []int{api.CmTick, api.CmMerge, api.CmCut} {
			is(t, "Num", api.Command{Kind: kind, Num: n}, n >= 0)
		}
		is(t, "Keep", api.Command{Kind: api.CmCrash, Keep: []int{1, n, 2}}, n >= 0)
		is(t, "Limit", statement(api.Stmt{Kind: api.StSelect, Table: "t", Limit: int64(n)}), n >= -1)
		is(t, "Level", statement(api.Stmt{Kind: api.StBegin, Level: n}), n >= 1 && n <= 4)
		is(t, "Type", statement(api.Stmt{Kind: api.StCreate, Table: "t", Cols: []api.ColDef{{Name: "a", Type: api.Kind(n)}}, Key: []string{"a"}}), n >= 1 && n <= 3)
		is(t, "Agg", statement(api.Stmt{Kind: api.StSelect, Table: "t", Items: []api.Item{{Agg: n, Of: expr(num(1))}}}), n >= 0 && n <= 4)
		is(t, "Agg without Of", statement(api.Stmt{Kind: api.StSelect, Table: "t", Items: []api.Item{{Agg: n}}}), n == api.AgCount)
	}
	for _, n := range []int{0, 1, 4095, 4096, 4097, 5000} {
		is(t, "Bytes", api.Command{Kind: api.CmPlay, Bytes: many(n, "\x00")}, n <= 4096)
	}
}

// P15.7: names, from both sides of their bounds, of any bytes, wherever a name stands.
func TestNames(t *testing.T) {
	e := []api.Expr{expr(num(1))}
	int1 := []api.ColDef{{Name: "a", Type: api.KInt}}
	for _, name := range []string{"", "a", "\x00", "\"", "SELECT", "select", many(32, "n"), many(32, "\""), many(32, "\xff"), many(33, "n"), many(33, "\""), many(65537, "n")} {
		right := len(name) >= 1 && len(name) <= 32
		for kind := api.StCreate; kind <= api.StDelete; kind++ {
			c := ofKinds()[10+kind]
			c.Stmt.Table = name
			is(t, "Table", c, right)
		}
		is(t, "a column", statement(api.Stmt{Kind: api.StCreate, Table: "t", Cols: []api.ColDef{int1[0], {Name: name, Type: api.KInt}}, Key: []string{"a"}}), right)
		is(t, "a key", statement(api.Stmt{Kind: api.StCreate, Table: "t", Cols: int1, Key: []string{"a", name}}), right)
		is(t, "a name", statement(api.Stmt{Kind: api.StInsert, Table: "t", Names: []string{"a", name}, Rows: [][]api.Expr{e}}), right)
		is(t, "a name", statement(api.Stmt{Kind: api.StUpdate, Table: "t", Names: []string{name}, Rows: [][]api.Expr{e}}), right)
		is(t, "As", statement(api.Stmt{Kind: api.StSelect, Table: "t", Items: []api.Item{{Of: e[0], As: name}}}), right || name == "")
		is(t, "As", statement(api.Stmt{Kind: api.StSelect, Table: "t", Items: []api.Item{{Agg: api.AgCount, As: name}}}), right || name == "")
		is(t, "a sort", statement(api.Stmt{Kind: api.StSelect, Table: "t", Order: []api.Sort{{Col: "a"}, {Col: name, Desc: true}}}), right)
		want(t, "P15.7: a column within", isExpr(t, expr(col(name))), right)
		want(t, "P15.7: a column's N", isExpr(t, expr(num(1), api.Node{Op: api.ExCol, Text: name, N: 1})), false)
	}
}

// P15.7: lists, from both sides of their bounds.
func TestLengths(t *testing.T) {
	row := func(n int) []api.Expr { return listed(n, func() api.Expr { return expr(num(1)) }) }
	names := func(n int) []string { return listed(n, func() string { return "a" }) }
	one := api.ColDef{Name: "a", Type: api.KBool, NotNull: true}
	for _, n := range []int{0, 1, 2, 15, 16, 17, 63, 64, 65, 1000} {
		in := func(least, most int) bool { return n >= least && n <= most }
		is(t, "Keep", api.Command{Kind: api.CmCrash, Keep: make([]int, n)}, in(0, 16))
		is(t, "Cols", statement(api.Stmt{Kind: api.StCreate, Table: "t", Cols: listed(n, func() api.ColDef { return one }), Key: names(1)}), in(1, 16))
		is(t, "Key", statement(api.Stmt{Kind: api.StCreate, Table: "t", Cols: []api.ColDef{one}, Key: names(n)}), in(1, 16))
		is(t, "Names", statement(api.Stmt{Kind: api.StInsert, Table: "t", Names: names(n), Rows: [][]api.Expr{row(1)}}), in(0, 16))
		is(t, "Rows", statement(api.Stmt{Kind: api.StInsert, Table: "t", Rows: listed(n, func() []api.Expr { return row(2) })}), in(1, 64))
		is(t, "a row", statement(api.Stmt{Kind: api.StInsert, Table: "t", Rows: [][]api.Expr{row(1), row(n)}}), in(1, 16))
		is(t, "Items", statement(api.Stmt{Kind: api.StSelect, Table: "t", Items: listed(n, func() api.Item { return api.Item{Of: expr(num(1))} })}), in(0, 16))
		is(t, "Order", statement(api.Stmt{Kind: api.StSelect, Table: "t", Order: listed(n, func() api.Sort { return api.Sort{Col: "a"} })}), in(0, 16))
		is(t, "SETs", statement(api.Stmt{Kind: api.StUpdate, Table: "t", Names: names(n), Rows: [][]api.Expr{row(n)}}), in(1, 16))
		is(t, "more SETs", statement(api.Stmt{Kind: api.StUpdate, Table: "t", Names: names(n), Rows: [][]api.Expr{row(n + 1)}}), false)
		is(t, "fewer SETs", statement(api.Stmt{Kind: api.StUpdate, Table: "t", Names: names(n + 1), Rows: [][]api.Expr{row(n)}}), false)
		is(t, "rows of SETs", statement(api.Stmt{Kind: api.StUpdate, Table: "t", Names: names(1), Rows: listed(n, func() []api.Expr { return row(1) })}), n == 1)
	}
	is(t, "rows of unlike lengths", statement(api.Stmt{Kind: api.StInsert, Table: "t", Names: names(3), Rows: [][]api.Expr{row(1), row(16), row(2)}}), true)
}

// P15.7: an expression that is none makes the command none, wherever it stands.
func TestWhereExpressionsStand(t *testing.T) {
	good, bad := expr(col("a")), expr(num(1), num(2))
	for _, x := range []api.Expr{good, bad, nil, {}} {
		right := len(x) == 1
		is(t, "the last value", statement(api.Stmt{Kind: api.StInsert, Table: "t", Rows: [][]api.Expr{{good, good}, {good, x}}}), right)
		is(t, "an item", statement(api.Stmt{Kind: api.StSelect, Table: "t", Items: []api.Item{{Of: good}, {Of: x, As: "b"}}}), right)
		for agg := api.AgSum; agg <= api.AgMax; agg++ {
			is(t, "an aggregate", statement(api.Stmt{Kind: api.StSelect, Table: "t", Items: []api.Item{{Agg: agg, Of: x}}}), right)
		}
		is(t, "COUNT", statement(api.Stmt{Kind: api.StSelect, Table: "t", Items: []api.Item{{Agg: api.AgCount, Of: x}}}), right || len(x) == 0)
		is(t, "a SET", statement(api.Stmt{Kind: api.StUpdate, Table: "t", Names: []string{"a", "b"}, Rows: [][]api.Expr{{good, x}}}), right)
		is(t, "Where", statement(api.Stmt{Kind: api.StSelect, Table: "t", Where: x}), right || len(x) == 0)
		is(t, "Where", statement(api.Stmt{Kind: api.StUpdate, Table: "t", Names: []string{"a"}, Rows: [][]api.Expr{{good}}, Where: x}), right || len(x) == 0)
		is(t, "Where", statement(api.Stmt{Kind: api.StDelete, Table: "t", Where: x}), right || len(x) == 0)
	}
}

// P15.7: each operation with each number of operands, with as many as its N says, one too few, and one left over.
func TestOperands(t *testing.T) {
	may := func(o, n int) bool {
		switch {
		case o >= api.ExInt && o <= api.ExCol:
			return n == 0
		case o >= api.ExNeg && o <= api.ExNotNull:
			return n == 1
		case o >= api.ExAdd && o <= api.ExLike:
			return n == 2
		case o == api.ExBetween:
			return n == 3
		case o == api.ExIn:
			return n >= 2 && n <= 17
		case o == api.ExCase:
			return n >= 3 && n <= 33 && n%2 == 1
		}
		return false
	}
	try := func(o api.Node, n int, right bool) {
		t.Helper()
		operands := listed(max(0, min(n, 40)), func() api.Node { return num(1) })
		o.N = n
		want(t, fmt.Sprintf("P15.7: operation %d %q of %d", o.Op, o.Text, n), isExpr(t, append(slices.Clone(operands), o)), right)
		if n > 0 && n < 40 {
			want(t, fmt.Sprintf("P15.7: operation %d of %d, with too few", o.Op, n), isExpr(t, append(slices.Clone(operands[1:]), o)), false)
			want(t, fmt.Sprintf("P15.7: operation %d of %d, with too few and one behind", o.Op, n), isExpr(t, append(slices.Clone(operands[1:]), o, num(1))), false)
		}
		want(t, fmt.Sprintf("P15.7: operation %d of %d, with one left over", o.Op, n), isExpr(t, append(append(expr(num(2)), operands...), o)), false)
		want(t, fmt.Sprintf("P15.7: operation %d of %d, with one behind", o.Op, n), isExpr(t, append(slices.Clone(operands), o, num(2))), false)
	}
	for _, o := range append(strange(), 11, 14, 18, 19, 20, 21, 22, 23, 24, 25, 26, 27) {
		for _, n := range append(strange(), 14, 18, 31, 35) {
			node := api.Node{Op: o}
			if o == api.ExCol {
				node.Text = "a"
			}
			try(node, n, may(o, n))
		}
	}
	for _, name := range []string{"abs", "length", "lower", "upper", "nullif", "substr", "coalesce", "least", "greatest", "", "ABS", "foo", "abs ", "a", "count", "\"abs\""} {
		least, most := plainArguments(name)
		for _, n := range strange() {
			try(call(name, 0), n, least > 0 && n >= least && n <= most)
		}
	}
	want(t, "P15.7: no node", isExpr(t, nil), false)
	want(t, "P15.7: two leaves", isExpr(t, expr(num(1), num(2))), false)
}

// P15.7: Num and Text of each operation.
func TestNumAndText(t *testing.T) {
	for o := api.ExInt; o <= api.ExCall; o++ {
		n := []int{0, 0, 0, 0, 0, 0, 0, 1, 1, 1, 1, 2, 2, 2, 2, 2, 2, 2, 2, 2, 2, 2, 2, 2, 2, 2, 3, 2, 3, 1}[o]
		operands := listed(n, func() api.Node { return num(1) })
		try := func(num int64, text string, right bool) {
			t.Helper()
			want(t, fmt.Sprintf("P15.7: operation %d with %d and %.40q", o, num, text), isExpr(t, append(slices.Clone(operands), api.Node{Op: o, N: n, Num: num, Text: text})), right)
		}
		text := map[int]string{api.ExCol: "a", api.ExCall: "abs"}[o]
		for _, num := range []int64{math.MinInt64, -1, 0, 1, math.MaxInt64} {
			try(num, text, num == 0 || o == api.ExInt && num > 0)
		}
		for _, text := range []string{"", "a", "abs", "substr", many(32, "n"), many(33, "n"), many(4096, "t"), many(4097, "t")} {
			right := text == ""
			switch o {
			case api.ExText:
				right = len(text) <= 4096
			case api.ExCol:
				right = text != "" && len(text) <= 32
			case api.ExCall:
				right = text == "abs"
			}
			try(0, text, right)
		}
	}
}

// P15.7: nestings, those too that only the print's brackets open.
func TestNestingsOfLists(t *testing.T) {
	grown := func(n int, e api.Expr, grow func(e api.Expr) api.Expr) api.Expr {
		for range n {
			e = grow(e)
		}
		return e
	}
	a := expr(col("a"))
	right := func(o int) func(e api.Expr) api.Expr {
		return func(e api.Expr) api.Expr { return over(op(o, 0), a, e) }
	}
	left := func(o int) func(e api.Expr) api.Expr {
		return func(e api.Expr) api.Expr { return over(op(o, 0), e, a) }
	}
	deepest := func(what string, n int, start api.Expr, grow func(e api.Expr) api.Expr) {
		t.Helper()
		e := grown(n, start, grow)
		want(t, fmt.Sprintf("P15.7: %s, %d times", what, n), isExpr(t, e), true)
		want(t, fmt.Sprintf("P15.7: %s, %d times", what, n+1), isExpr(t, grow(e)), false)
	}
	for _, o := range []int{api.ExNeg, api.ExNot} {
		deepest("a prefix", 32, a, func(e api.Expr) api.Expr { return over(op(o, 0), e) })
		deepest("a prefix", 31, over(op(api.ExIn, 0), over(op(api.ExNeg, 0), a), a), func(e api.Expr) api.Expr { return over(call("abs", 0), e) })
	}
	deepest("a call", 32, a, func(e api.Expr) api.Expr { return over(call("abs", 0), e) })
	deepest("a call's last", 32, a, func(e api.Expr) api.Expr { return over(call("substr", 0), a, a, e) })
	deepest("a CASE's first", 32, a, func(e api.Expr) api.Expr { return over(op(api.ExCase, 0), e, a, a) })
	deepest("a CASE's then", 32, a, func(e api.Expr) api.Expr { return over(op(api.ExCase, 0), a, a, a, e, a) })
	deepest("a CASE's else", 32, a, func(e api.Expr) api.Expr { return over(op(api.ExCase, 0), a, a, e) })
	deepest("an IN list", 32, a, func(e api.Expr) api.Expr { return over(op(api.ExIn, 0), a, a, e) })
	deepest("a NOT IN list", 32, a, func(e api.Expr) api.Expr { return over(op(api.ExNot, 0), over(op(api.ExIn, 0), a, e)) })
	deepest("what is in a list", 31, over(op(api.ExIn, 0), a, a), func(e api.Expr) api.Expr { return over(op(api.ExIn, 0), e, a) })
	deepest("a NOT round a test", 33, a, func(e api.Expr) api.Expr { return over(op(api.ExIsNull, 0), e) })
	for o := range infixes() {
		deepest("an operator's right", 33, a, right(o)) // the innermost needs no brackets
		if o >= api.ExEq && o <= api.ExGe || o == api.ExLike {
			deepest("a test's left", 33, a, left(o))
			continue
		}
		want(t, "P15.7: an operator's left", isExpr(t, grown(600, a, left(o))), true)
	}
	for _, place := range []int{0, 1, 2} {
		deepest("BETWEEN", 33, a, func(e api.Expr) api.Expr {
			of := []api.Expr{a, a, a}
			of[place] = e
			return over(op(api.ExBetween, 0), of...)
		})
	}
	deepest("OR in AND", 65, a, func(e api.Expr) api.Expr {
		if e[len(e)-1].Op == api.ExOr {
			return over(op(api.ExAnd, 0), e, a)
		}
		return over(op(api.ExOr, 0), a, e)
	})
}
