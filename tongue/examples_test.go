package tongue_test

import (
	"testing"

	"strata/api"
	"strata/tongue"
)

// The chapter's examples of expressions.
func TestExamplesOfExpressions(t *testing.T) {
	a, b, c := col("a"), col("b"), col("c")
	reads(t, "1+2*3", "1 + 2 * 3", expr(num(1), num(2), num(3), op(api.ExMul, 2), op(api.ExAdd, 2)))
	reads(t, "(1+2)*3", "(1 + 2) * 3", expr(num(1), num(2), op(api.ExAdd, 2), num(3), op(api.ExMul, 2)))
	reads(t, "1-(2-3)-4", "1 - (2 - 3) - 4", expr(num(1), num(2), num(3), op(api.ExSub, 2), op(api.ExSub, 2), num(4), op(api.ExSub, 2)))
	reads(t, "not a = b and c", "NOT a = b AND c", expr(a, b, op(api.ExEq, 2), op(api.ExNot, 1), c, op(api.ExAnd, 2)))
	reads(t, "NOT (a IN (1, 2))", "a NOT IN (1, 2)", expr(a, num(1), num(2), op(api.ExIn, 3), op(api.ExNot, 1)))
	reads(t, "-(-A)", "- -a", expr(a, op(api.ExNeg, 1), op(api.ExNeg, 1)))
	reads(t, "a BETWEEN 1 AND 2 AND b", "a BETWEEN 1 AND 2 AND b", expr(a, num(1), num(2), op(api.ExBetween, 3), b, op(api.ExAnd, 2)))
	reads(t, "case when a is null then 'x''y' end", "CASE WHEN a IS NULL THEN 'x''y' ELSE NULL END", expr(a, op(api.ExIsNull, 1), text("x'y"), op(api.ExNull, 0), op(api.ExCase, 3)))
	reads(t, `coalesce("Big", x'4142')`, `coalesce("Big", 'AB')`, expr(col("Big"), text("AB"), call("coalesce", 2)))
	reads(t, "(a OR b) AND (c)", "(a OR b) AND c", expr(a, b, op(api.ExOr, 2), c, op(api.ExAnd, 2)))
	exprFails(t, "a = b = c", api.ErrSyntax, 6)
	exprFails(t, "abs(1, 2)", api.ErrFunction, 0)
}

// The chapter's examples of scripts.
func TestExamplesOfScripts(t *testing.T) {
	right := []api.Command{
		statement(api.Stmt{Kind: api.StBegin, Level: api.Snapshot}),
		{Kind: api.CmPlay, Bytes: "\x00\xa1"},
		{Kind: api.CmCrash, Keep: []int{3, 4}},
	}
	cs, e, at := tongue.Parse("@1 begin;PLAY X'00A1' ; crash 3 ,4;")
	want(t, "P15.3: the example", []any{cs, e, at}, []any{right, api.OK, 0})
	print, e := tongue.Print(cs...)
	want(t, "P15.8: the example", []any{print, e}, []any{"@1 BEGIN SNAPSHOT;\nPLAY x'00a1';\nCRASH 3, 4;\n", api.OK})
	fails(t, "@1 SELECT * FROM t", api.ErrSyntax, 18)
	fails(t, "DRAIN; DRAIN @", api.ErrSyntax, 13)
	fails(t, "@1 SELECT 'a", api.ErrUnclosed, 10)
	cs, e, at = tongue.Parse("")
	want(t, "P15.6: no text", []any{len(cs), e, at}, []any{0, api.OK, 0})
}
