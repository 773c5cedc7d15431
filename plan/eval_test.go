package plan_test

import (
	"fmt"
	"math"
	"slices"
	"strings"
	"testing"

	"strata/api"
	"strata/plan"
	"strata/tongue"
)

// evals holds the value of an expression over three columns against the right one, and against the chapter written down a second time.
func evals(t *testing.T, text string, values []api.Value, right api.Value, code api.Errno) {
	t.Helper()
	e := expr(t, text)
	v, c := plan.Eval(e, threeCols(), values)
	want(t, fmt.Sprintf("P16.5: Eval(%.200s, %.90v)", text, values), list(v, c), list(right, code))
	v, c = plainEval(e, threeCols(), values)
	want(t, fmt.Sprintf("P16.5 a second time: Eval(%.200s, %.90v)", text, values), list(v, c), list(right, code))
}

const (
	least    = "(-9223372036854775807 - 1)"
	greatest = "9223372036854775807"
)

func TestEval(t *testing.T) {
	at := row(in(4), tx("éa\xff"), null) // a, b, c
	for _, c := range []struct {
		text string
		v    api.Value
		code api.Errno
	}{
		{"1 / 0 = 1 OR TRUE", null, api.ErrDivide}, {"TRUE OR 1 / 0 = 1", bo(true), api.OK}, {"NULL / 0 IS NULL", bo(true), api.OK}, {"2 IN (1, NULL)", null, api.OK}, {"1 NOT BETWEEN 2 AND NULL", bo(true), api.OK}, {"-9223372036854775807 - 2", null, api.ErrOver}, {"substr('abc', 0, 2)", tx("a"), api.OK},
		// leaves
		{"5", in(5), api.OK}, {"'x'", tx("x"), api.OK}, {"NULL", null, api.OK}, {"TRUE", bo(true), api.OK}, {"FALSE", bo(false), api.OK}, {"a", in(4), api.OK}, {"b", tx("éa\xff"), api.OK}, {"c", null, api.OK}, {greatest, in(math.MaxInt64), api.OK},
		// truth tables
		{"TRUE AND TRUE", bo(true), api.OK}, {"TRUE AND FALSE", bo(false), api.OK}, {"TRUE AND NULL", null, api.OK}, {"FALSE AND TRUE", bo(false), api.OK}, {"FALSE AND FALSE", bo(false), api.OK}, {"FALSE AND NULL", bo(false), api.OK}, {"NULL AND TRUE", null, api.OK}, {"NULL AND FALSE", bo(false), api.OK}, {"NULL AND NULL", null, api.OK},
		{"TRUE OR TRUE", bo(true), api.OK}, {"TRUE OR FALSE", bo(true), api.OK}, {"TRUE OR NULL", bo(true), api.OK}, {"FALSE OR TRUE", bo(true), api.OK}, {"FALSE OR FALSE", bo(false), api.OK}, {"FALSE OR NULL", null, api.OK}, {"NULL OR TRUE", bo(true), api.OK}, {"NULL OR FALSE", null, api.OK}, {"NULL OR NULL", null, api.OK},
		{"NOT TRUE", bo(false), api.OK}, {"NOT FALSE", bo(true), api.OK}, {"NOT NULL", null, api.OK}, {"NOT c", null, api.OK}, {"c IS NULL", bo(true), api.OK}, {"c IS NOT NULL", bo(false), api.OK}, {"a IS NULL", bo(false), api.OK}, {"a IS NOT NULL", bo(true), api.OK},
		// which operands are asked for
		{"FALSE AND 1 / 0 = 1", bo(false), api.OK}, {"TRUE AND 1 / 0 = 1", null, api.ErrDivide}, {"NULL AND 1 / 0 = 1", null, api.ErrDivide}, {"1 / 0 = 1 AND FALSE", null, api.ErrDivide}, {"FALSE OR 1 / 0 = 1", null, api.ErrDivide}, {"NULL OR 1 / 0 = 1", null, api.ErrDivide}, {"FALSE AND 1 / 0 = 1 OR TRUE", bo(true), api.OK}, {"FALSE AND 1 / 0 = 1 AND 1 / 0 = 1", bo(false), api.OK},
		{"NULL + 1 / 0", null, api.ErrDivide}, {"1 / 0 + (" + greatest + " + 1)", null, api.ErrDivide}, {"(" + greatest + " + 1) + 1 / 0", null, api.ErrOver}, {"NULL = 1 / 0", null, api.ErrDivide}, {"substr(NULL, 1 / 0, " + greatest + " + 1)", null, api.ErrDivide}, {"substr(NULL, " + greatest + " + 1, 1 / 0)", null, api.ErrOver},
		{"NULL BETWEEN 1 / 0 AND 2", null, api.ErrDivide}, {"1 BETWEEN 2 AND 1 / 0", null, api.ErrDivide}, {"1 / 0 BETWEEN " + greatest + " + 1 AND 3", null, api.ErrDivide}, {"1 BETWEEN " + greatest + " + 1 AND 1 / 0", null, api.ErrOver},
		{"1 IN (1, 1 / 0)", bo(true), api.OK}, {"1 IN (2, 1 / 0)", null, api.ErrDivide}, {"1 IN (1 / 0, 1)", null, api.ErrDivide}, {"1 / 0 IN (1)", null, api.ErrDivide}, {"NULL IN (1, 1 / 0)", null, api.ErrDivide}, {"1 IN (NULL, 1, 1 / 0)", bo(true), api.OK}, {"NULL IN (NULL, 1 / 0)", null, api.ErrDivide},
		{"CASE WHEN TRUE THEN 1 WHEN 1 / 0 = 1 THEN 2 ELSE 1 / 0 END", in(1), api.OK}, {"CASE WHEN FALSE THEN 1 / 0 WHEN NULL THEN 1 / 0 ELSE 3 END", in(3), api.OK}, {"CASE WHEN 1 / 0 = 1 THEN 1 END", null, api.ErrDivide}, {"CASE WHEN TRUE THEN 1 / 0 ELSE 1 END", null, api.ErrDivide}, {"CASE WHEN FALSE THEN 1 ELSE 1 / 0 END", null, api.ErrDivide}, {"CASE WHEN FALSE THEN 1 END", null, api.OK}, {"CASE WHEN c THEN 1 WHEN a = 4 THEN 9 END", in(9), api.OK},
		{"coalesce(NULL, 4, 1 / 0)", in(4), api.OK}, {"coalesce(NULL, 1 / 0, 4)", null, api.ErrDivide}, {"coalesce(NULL, NULL)", null, api.OK}, {"coalesce(c, TRUE)", bo(true), api.OK}, {"nullif(NULL, 1 / 0)", null, api.ErrDivide}, {"nullif(1 / 0, 1)", null, api.ErrDivide}, {"least(NULL, 1 / 0)", null, api.ErrDivide}, {"greatest(1, 2, 1 / 0)", null, api.ErrDivide}, {"NOT 1 / 0 = 1", null, api.ErrDivide}, {"1 / 0 IS NULL", null, api.ErrDivide}, {"-(1 / 0)", null, api.ErrDivide},
		// IN, BETWEEN, nullif, least and greatest with null
		{"c IN (TRUE)", null, api.OK}, {"1 IN (2, 3)", bo(false), api.OK}, {"1 NOT IN (2, NULL)", null, api.OK}, {"1 NOT IN (1, NULL)", bo(false), api.OK}, {"3 BETWEEN NULL AND 5", null, api.OK}, {"6 BETWEEN NULL AND 5", bo(false), api.OK}, {"3 BETWEEN 3 AND 3", bo(true), api.OK}, {"NULL BETWEEN 1 AND 2", null, api.OK}, {"2 BETWEEN 3 AND 1", bo(false), api.OK}, {"'b' BETWEEN 'a' AND 'c'", bo(true), api.OK}, {"TRUE BETWEEN FALSE AND TRUE", bo(true), api.OK},
		{"nullif(4, a)", null, api.OK}, {"nullif(5, a)", in(5), api.OK}, {"nullif(5, NULL)", in(5), api.OK}, {"nullif(NULL, 5)", null, api.OK}, {"nullif(NULL, NULL)", null, api.OK}, {"nullif('x', 'x')", null, api.OK}, {"least(3, NULL, 1)", in(1), api.OK}, {"greatest(NULL, 3, 1)", in(3), api.OK}, {"least(NULL)", null, api.OK}, {"greatest('a', 'ab', '')", tx("ab"), api.OK}, {"least(TRUE, FALSE)", bo(false), api.OK}, {"greatest(-1, -2)", in(-1), api.OK},
		// comparisons
		{"1 < 2", bo(true), api.OK}, {"2 <= 2", bo(true), api.OK}, {"1 > 2", bo(false), api.OK}, {"2 >= 3", bo(false), api.OK}, {"1 = 1", bo(true), api.OK}, {"1 <> 1", bo(false), api.OK}, {"NULL = NULL", null, api.OK}, {"NULL <> 1", null, api.OK}, {"FALSE < TRUE", bo(true), api.OK}, {"'a' < 'ab'", bo(true), api.OK}, {"'é' > 'z'", bo(true), api.OK}, {"'B' < 'a'", bo(true), api.OK}, {least + " < " + greatest, bo(true), api.OK}, {least + " = " + least, bo(true), api.OK}, {"'' = x'00'", bo(false), api.OK},
		// numbers at both ends
		{"-" + least, null, api.ErrOver}, {"-" + greatest, in(-math.MaxInt64), api.OK}, {"- -5", in(5), api.OK}, {"-0", in(0), api.OK}, {"abs" + least, null, api.ErrOver}, {"abs(-" + greatest + ")", in(math.MaxInt64), api.OK}, {"abs(7)", in(7), api.OK}, {"abs(0)", in(0), api.OK},
		{greatest + " + 1", null, api.ErrOver}, {greatest + " + 0", in(math.MaxInt64), api.OK}, {greatest + " + -1", in(math.MaxInt64 - 1), api.OK}, {least + " + -1", null, api.ErrOver}, {least + " + " + greatest, in(-1), api.OK}, {least + " + " + least, null, api.ErrOver}, {greatest + " + " + greatest, null, api.ErrOver},
		{least + " - 1", null, api.ErrOver}, {"0 - " + least, null, api.ErrOver}, {"-1 - " + least, in(math.MaxInt64), api.OK}, {greatest + " - -1", null, api.ErrOver}, {least + " - " + least, in(0), api.OK}, {greatest + " - " + least, null, api.ErrOver}, {least + " - 0", in(math.MinInt64), api.OK},
		{least + " * 1", in(math.MinInt64), api.OK}, {least + " * -1", null, api.ErrOver}, {"-1 * " + least, null, api.ErrOver}, {greatest + " * -1", in(-math.MaxInt64), api.OK}, {"3037000500 * 3037000500", null, api.ErrOver}, {"3037000499 * 3037000499", in(9223372030926249001), api.OK}, {"-4294967296 * 2147483648", in(math.MinInt64), api.OK}, {"4294967296 * 2147483648", null, api.ErrOver}, {"4294967296 * 4294967296", null, api.ErrOver}, {least + " * 0", in(0), api.OK}, {least + " * " + least, null, api.ErrOver}, {"0 * " + greatest, in(0), api.OK}, {least + " * 2", null, api.ErrOver},
		{least + " / -1", null, api.ErrOver}, {least + " / 1", in(math.MinInt64), api.OK}, {least + " % -1", in(0), api.OK}, {least + " / 0", null, api.ErrDivide}, {least + " % 0", null, api.ErrDivide}, {"0 / 0", null, api.ErrDivide}, {"7 / 2", in(3), api.OK}, {"-7 / 2", in(-3), api.OK}, {"7 / -2", in(-3), api.OK}, {"-7 / -2", in(3), api.OK}, {"7 % 2", in(1), api.OK}, {"-7 % 2", in(-1), api.OK}, {"7 % -2", in(1), api.OK}, {"-7 % -2", in(-1), api.OK}, {"1 % " + least, in(1), api.OK}, {"NULL % 0", null, api.OK}, {"5 / NULL", null, api.OK}, {greatest + " / " + least, in(0), api.OK}, {least + " % " + greatest, in(-1), api.OK},
		{"1 - 2 - 3", in(-4), api.OK}, {"1 - (2 - 3)", in(2), api.OK}, {"2 + 3 * 4 % 5 - 1", in(3), api.OK}, {"8 / 4 / 2", in(1), api.OK},
		// texts
		{"length(b)", in(3), api.OK}, {"length('')", in(0), api.OK}, {"length(NULL)", null, api.OK}, {"length(x'e282')", in(2), api.OK}, {"length(x'e282ac')", in(1), api.OK}, {"length(x'f09f9880')", in(1), api.OK}, {"length(x'f09f98')", in(3), api.OK}, {"length(x'eda080')", in(3), api.OK}, {"length(x'c080')", in(2), api.OK}, {"length(x'efbfbd')", in(1), api.OK}, {"length(x'f4908080')", in(4), api.OK}, {"length(x'00')", in(1), api.OK}, {"length(x'80')", in(1), api.OK}, {"length('aé€' || x'f09f9880ff')", in(5), api.OK},
		{"lower('AZ@[az`{É')", tx("az@[az`{É"), api.OK}, {"upper('az`{AZ@[é')", tx("AZ`{AZ@[é"), api.OK}, {"upper(x'ff61c3')", tx("\xffA\xc3"), api.OK}, {"lower(NULL)", null, api.OK}, {"upper('')", tx(""), api.OK},
		{"'a' || 'b' || 'c'", tx("abc"), api.OK}, {"'a' || NULL", null, api.OK}, {"NULL || 'a'", null, api.OK}, {"'' || ''", tx(""), api.OK}, {"length(x'c3' || x'a9')", in(1), api.OK},
		{"substr(b, 1, 1)", tx("é"), api.OK}, {"substr(b, 2, 1)", tx("a"), api.OK}, {"substr(b, 3, 1)", tx("\xff"), api.OK}, {"substr(b, 4, 1)", tx(""), api.OK}, {"substr(b, 2, 9)", tx("a\xff"), api.OK}, {"substr('abc', 1, 3)", tx("abc"), api.OK}, {"substr('abc', 1, 2)", tx("ab"), api.OK}, {"substr('abc', -5, 7)", tx("a"), api.OK}, {"substr('abc', -5, 6)", tx(""), api.OK}, {"substr('abc', 2, 0)", tx(""), api.OK}, {"substr('abc', 2, -1)", tx(""), api.OK}, {"substr('', 1, 1)", tx(""), api.OK}, {"substr('abc', NULL, 1)", null, api.OK}, {"substr('abc', 1, NULL)", null, api.OK},
		{"substr('abc', " + least + ", " + greatest + ")", tx(""), api.OK}, {"substr('abc', " + least + ", " + least + ")", tx(""), api.OK}, {"substr('abc', " + greatest + ", " + greatest + ")", tx(""), api.OK}, {"substr('abc', 2, " + greatest + ")", tx("bc"), api.OK}, {"substr('abc', 1, " + greatest + ")", tx("abc"), api.OK}, {"substr('abc', 0, " + greatest + ")", tx("abc"), api.OK}, {"substr('abc', -9223372036854775805, " + greatest + ")", tx("a"), api.OK}, {"substr('abc', -9223372036854775806, " + greatest + ")", tx(""), api.OK}, {"substr('abc', " + greatest + ", " + least + ")", tx(""), api.OK}, {"substr('abc', 1, " + least + ")", tx(""), api.OK},
		{"b LIKE '__' || x'ff'", bo(true), api.OK}, {"b LIKE NULL", null, api.OK}, {"NULL LIKE '%'", null, api.OK}, {"b NOT LIKE 'x%'", bo(true), api.OK}, {"'a' LIKE 'A'", bo(false), api.OK},
	} {
		evals(t, c.text, at, c.v, c.code)
	}
	evals(t, "c AND a = 1", row(in(1), null, bo(true)), bo(true), api.OK)
	evals(t, "c", row(null, null, bo(false)), bo(false), api.OK)
}

// P16.5: || up to MaxText bytes.
func TestLongTexts(t *testing.T) {
	half, one := "'"+many(api.MaxText/2, "x")+"'", "'y'"
	whole := tx(many(api.MaxText, "x"))
	evals(t, half+" || "+half, row(null, null, null), whole, api.OK)
	evals(t, half+" || "+half+" || "+one, row(null, null, null), null, api.ErrLong)
	evals(t, one+" || b", row(null, whole, null), null, api.ErrLong)
	evals(t, "'' || b || ''", row(null, whole, null), whole, api.OK)
	evals(t, "b || NULL || 'x'", row(null, whole, null), null, api.OK)
	evals(t, "b || 'x' || NULL", row(null, whole, null), null, api.ErrLong)
	evals(t, "length(b || b)", row(null, whole, null), null, api.ErrLong)
	evals(t, "b LIKE '%' || substr(b, 2, 9999)", row(null, whole, null), bo(true), api.OK)
	evals(t, "upper(b) = lower(b)", row(null, whole, null), bo(false), api.OK)
	e := over(op(api.ExCat), written(whole), written(tx("")))
	v, code := plan.Eval(e, nil, nil)
	want(t, "P16.5: a literal of MaxText", list(v == whole, code), list(true, api.OK))
}

// P16.5: what is wrong with a row, and in which order.
func TestEvalOfRows(t *testing.T) {
	cols, one := threeCols(), expr(t, "1")
	good := row(in(1), tx("x"), bo(true))
	for _, c := range []struct {
		row  []api.Value
		code api.Errno
	}{
		{good, api.OK}, {nil, api.ErrArity}, {good[:2], api.ErrArity}, {append(slices.Clone(good), null), api.ErrArity}, {row(null, null, null), api.OK},
		{row(tx("x"), tx("x"), bo(true)), api.ErrType}, {row(in(1), in(1), bo(true)), api.ErrType}, {row(in(1), tx("x"), in(1)), api.ErrType}, {row(in(1), tx("x"), tx("")), api.ErrType},
		{row(api.Value{Kind: api.KInt, Text: "x"}, tx("x"), null), api.ErrValue}, {row(api.Value{Kind: api.KBool, Int: 2}, tx("x"), null), api.ErrValue}, {row(tx("x"), api.Value{Kind: 4}, null), api.ErrType}, {row(in(1), api.Value{Kind: 4}, in(1)), api.ErrValue}, {row(null, tx(many(api.MaxText+1, "x")), in(1)), api.ErrLong}, {row(null, tx(many(api.MaxText, "x")), null), api.OK}, {row(tx(many(api.MaxText+1, "x")), null, null), api.ErrLong}, {row(api.Value{Int: 1}, null, null), api.ErrValue}, {row(api.Value{Text: "x"}, null, null), api.ErrValue},
		{row(tx("x"), tx("x")), api.ErrArity},
	} {
		v, code := plan.Eval(one, cols, c.row)
		want(t, fmt.Sprintf("P16.5: Eval(1, %.90v)", c.row), code, c.code)
		if code != api.OK {
			want(t, "P16.5: beside an error", v, null)
			v, code = plan.Eval(expr(t, "1 = 'x'"), cols, c.row)
			want(t, "P16.5: the error of TypeOf comes first", list(v, code), list(null, api.ErrType))
			_, code = plan.Eval(expr(t, "1 / 0"), cols, c.row)
			want(t, "P16.5: what comes up comes last", code, c.code)
		}
	}
}

// P16.5: expressions of any kind at rows of any kind, against the chapter written down a second time.
func TestEvalOfMadeUp(t *testing.T) {
	var codes met
	var kinds [4]met
	inBatches(t, 150000, func(m *maker) string {
		u := api.Table{Cols: m.columns(m.Intn(5))}
		e := m.expr(u.Cols, api.Kind(m.Intn(4)), m.Intn(6))
		values := m.row(u)
		if m.one(50) && len(values) > 0 {
			values = values[1:]
		}
		v, code := plan.Eval(e, u.Cols, values)
		right, c := plainEval(e, u.Cols, values)
		codes[code].Add(1)
		kinds[v.Kind][code].Add(1)
		if v != right || code != c {
			text, _ := tongue.PrintExpr(e)
			return fmt.Sprintf("P16.5: Eval(%s, %+v, %v) = %v, %d, want %v, %d", text, u.Cols, values, v, code, right, c)
		}
		return ""
	})
	codes.atLeast(t, 150, api.OK, api.ErrType, api.ErrColumn, api.ErrDivide, api.ErrOver, api.ErrArity, api.ErrValue, api.ErrLong)
	for k := range kinds {
		kinds[k].atLeast(t, 3000, api.OK)
	}
}

// P16.5: expressions that lean to the left are as deep as they are long, and are evaluated all the same; so are those with all nestings open.
func TestLongExpressions(t *testing.T) {
	const n = 100000
	chain := func(first api.Expr, op int, right api.Expr) api.Expr {
		e := slices.Clone(first)
		for range n {
			e = append(append(e, right...), api.Node{Op: op, N: 2})
		}
		return e
	}
	cols, values := threeCols(), row(in(1), tx("x"), bo(true))
	for what, c := range map[string]struct {
		e    api.Expr
		v    api.Value
		code api.Errno
	}{
		"a sum": {chain(named("a"), api.ExAdd, written(in(2))), in(2*n + 1), api.OK}, "a sum that leaves 64 bits": {chain(named("a"), api.ExAdd, written(in(math.MaxInt64))), null, api.ErrOver},
		"a product": {chain(named("a"), api.ExMul, written(in(1))), in(1), api.OK}, "a division": {chain(named("a"), api.ExDiv, written(in(0))), null, api.ErrDivide}, "a text": {chain(named("b"), api.ExCat, written(tx("y"))), null, api.ErrLong}, "an empty text": {chain(named("b"), api.ExCat, written(tx(""))), tx("x"), api.OK},
		"ands": {chain(named("c"), api.ExAnd, named("c")), bo(true), api.OK}, "ands that are not asked for": {chain(written(bo(false)), api.ExAnd, expr(t, "1 / 0 = 1")), bo(false), api.OK}, "ors": {chain(written(bo(false)), api.ExOr, written(null)), null, api.OK}, "ors that are not asked for": {chain(named("c"), api.ExOr, expr(t, "1 / 0 = 1")), bo(true), api.OK},
	} {
		v, code := plan.Eval(c.e, cols, values)
		want(t, "P16.5: "+what, list(v, code), list(c.v, c.code))
	}
	mixed := named("a")
	for i := range n { // a + 1 - 1 + 1 ..
		mixed = append(append(mixed, written(in(1))...), api.Node{Op: api.ExAdd + i%2, N: 2})
	}
	mixed = over(op(api.ExAnd), over(op(api.ExEq), mixed, named("a")), named("c"))
	v, code := plan.Eval(mixed, cols, values)
	want(t, "P16.5: a mixed chain", list(v, code), list(bo(true), api.OK))
	deep, nots := "1", "TRUE"
	for range api.MaxDepth {
		deep, nots = "abs("+deep+")", "NOT "+nots
	}
	evals(t, deep, values, in(1), api.OK)
	evals(t, nots, values, bo(true), api.OK)
	evals(t, "("+many(31, "(1 - ")+"a"+many(31, ")")+")", values, in(0), api.OK)
	wide := "CASE " + many(api.MaxList, "WHEN c IN ("+strings.TrimSuffix(many(api.MaxList, "NULL,"), ",")+") THEN 1 ") + "ELSE 2 END"
	evals(t, wide, values, in(2), api.OK)
}
