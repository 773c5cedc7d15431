package plan_test

import (
	"fmt"
	"testing"

	"strata/api"
	"strata/plan"
)

// The chapter's table of examples, line by line.
func TestExamples(t *testing.T) {
	u := chapterTable(t)
	want(t, "Define", list(u.Key, u.Cols[0].NotNull, u.Cols[1].NotNull, u.Cols[2].NotNull), list([]int{1, 0}, true, true, true))
	p, code := plan.RowPair(u, row(in(5), tx("x"), bo(true)))
	want(t, "RowPair", fmt.Sprintf("% x, % x, %d", p.Key, p.Data, code), "39 07 50 78 00 01 39 05, 03 1e 0a 01 78 01, 0")
	_, code = plan.RowPair(u, row(null, tx("x"), bo(true)))
	want(t, "RowPair", code, api.ErrNotNull)
	for _, c := range []struct{ where, right string }{
		{"", "39 07, 39 08"}, {"b = 'x' AND a > 4 AND a > 2", "39 07 50 78 00 01 39 05, 39 07 50 78 00 02"}, {"'x' = b AND a = -1", "39 07 50 78 00 01 37, 39 07 50 78 00 01 37 00"}, {"a = 5", "39 07, 39 08"},
	} {
		var e api.Expr
		if c.where != "" {
			e = expr(t, c.where)
		}
		low, high, code := plan.Bounds(u, e)
		want(t, "Bounds of "+c.where, list(fmt.Sprintf("% x, % x", low, high), code), list(c.right, api.OK))
	}
	for _, c := range []struct {
		text string
		v    api.Value
		code api.Errno
	}{
		{"1 / 0 = 1 OR TRUE", null, api.ErrDivide}, {"TRUE OR 1 / 0 = 1", bo(true), api.OK}, {"NULL / 0 IS NULL", bo(true), api.OK}, {"2 IN (1, NULL)", null, api.OK}, {"1 NOT BETWEEN 2 AND NULL", bo(true), api.OK}, {"-9223372036854775807 - 2", null, api.ErrOver}, {"substr('abc', 0, 2)", tx("a"), api.OK},
	} {
		v, code := plan.Eval(expr(t, c.text), nil, nil)
		want(t, "Eval of "+c.text, list(v, code), list(c.v, c.code))
	}
	for text, right := range map[string][]any{"NULL + NULL": list(api.KInt, api.OK), "coalesce(NULL)": list(api.KNull, api.OK), "1 = 'x'": list(api.KNull, api.ErrType)} {
		kind, code := plan.TypeOf(expr(t, text), nil)
		want(t, "TypeOf of "+text, list(kind, code), right)
	}
	want(t, "Like", list(plan.Like("abc", "a%_c"), plan.Like("abc", "a%__c")), list(true, false))
}
