package tongue_test

import (
	"fmt"
	"strings"
	"testing"

	"strata/api"
	"strata/tongue"
)

// P15.4: every row of the table.
func TestOperations(t *testing.T) {
	a, b, c := col("a"), col("b"), col("c")
	reads(t, "007", "7", expr(num(7)))
	reads(t, "9223372036854775807", "9223372036854775807", expr(num(9223372036854775807)))
	reads(t, "'A''b'", "'A''b'", expr(text("A'b")))
	reads(t, "X'0aFF'", "'\n\xff'", expr(text("\n\xff")))
	reads(t, "''", "''", expr(text("")))
	reads(t, "null", "NULL", expr(op(api.ExNull, 0)))
	reads(t, "True", "TRUE", expr(op(api.ExTrue, 0)))
	reads(t, "faLSE", "FALSE", expr(op(api.ExFalse, 0)))
	reads(t, "A", "a", expr(a))
	reads(t, "\"A\"", "\"A\"", expr(col("A")))
	reads(t, "\"null\"", "\"null\"", expr(col("null")))
	reads(t, "- a", "-a", expr(a, op(api.ExNeg, 1)))
	reads(t, "-1", "-1", expr(num(1), op(api.ExNeg, 1)))
	reads(t, "not a", "NOT a", expr(a, op(api.ExNot, 1)))
	reads(t, "a is null", "a IS NULL", expr(a, op(api.ExIsNull, 1)))
	reads(t, "a is not null", "a IS NOT NULL", expr(a, op(api.ExNotNull, 1)))
	for o, sign := range infixes() {
		reads(t, "a "+strings.ToLower(sign)+" b", "a "+sign+" b", expr(a, b, op(o, 2)))
	}
	reads(t, "a!=b", "a <> b", expr(a, b, op(api.ExNe, 2)))
	reads(t, "a between b and c", "a BETWEEN b AND c", expr(a, b, c, op(api.ExBetween, 3)))
	reads(t, "a not between b and c", "a NOT BETWEEN b AND c", expr(a, b, c, op(api.ExBetween, 3), op(api.ExNot, 1)))
	reads(t, "a in(b)", "a IN (b)", expr(a, b, op(api.ExIn, 2)))
	reads(t, "a in(b,c,1)", "a IN (b, c, 1)", expr(a, b, c, num(1), op(api.ExIn, 4)))
	reads(t, "a not in(b,c)", "a NOT IN (b, c)", expr(a, b, c, op(api.ExIn, 3), op(api.ExNot, 1)))
	reads(t, "a not like b", "a NOT LIKE b", expr(a, b, op(api.ExLike, 2), op(api.ExNot, 1)))
	reads(t, "not a like b", "a NOT LIKE b", expr(a, b, op(api.ExLike, 2), op(api.ExNot, 1)))
	reads(t, "not a not like b", "NOT a NOT LIKE b", expr(a, b, op(api.ExLike, 2), op(api.ExNot, 1), op(api.ExNot, 1)))
	reads(t, "case when a then b end", "CASE WHEN a THEN b ELSE NULL END", expr(a, b, op(api.ExNull, 0), op(api.ExCase, 3)))
	reads(t, "case when a then b else null end", "CASE WHEN a THEN b ELSE NULL END", expr(a, b, op(api.ExNull, 0), op(api.ExCase, 3)))
	reads(t, "case when a then b when c then 1 else 2 end", "CASE WHEN a THEN b WHEN c THEN 1 ELSE 2 END", expr(a, b, c, num(1), num(2), op(api.ExCase, 5)))
	reads(t, "Abs (a)", "abs(a)", expr(a, call("abs", 1)))
	reads(t, "\"abs\"(a)", "abs(a)", expr(a, call("abs", 1)))
	reads(t, "abs", "abs", expr(col("abs")))
	reads(t, "((((a))))", "a", expr(a))
}

// P15.4: what stands one behind the other is taken from the left.
func TestFromTheLeft(t *testing.T) {
	a, b, c := col("a"), col("b"), col("c")
	for o, sign := range infixes() {
		if o >= api.ExEq && o <= api.ExGe || o == api.ExLike {
			at := len("a " + sign + " b ")
			exprFails(t, "a "+sign+" b "+sign+" c", api.ErrSyntax, at)
			continue
		}
		reads(t, "a "+sign+" b "+sign+" c", "a "+sign+" b "+sign+" c", expr(a, b, op(o, 2), c, op(o, 2)))
		reads(t, "a "+sign+" (b "+sign+" c)", "a "+sign+" (b "+sign+" c)", expr(a, b, c, op(o, 2), op(o, 2)))
	}
	reads(t, "a+b-c", "a + b - c", expr(a, b, op(api.ExAdd, 2), c, op(api.ExSub, 2)))
	reads(t, "a*b/c", "a * b / c", expr(a, b, op(api.ExMul, 2), c, op(api.ExDiv, 2)))
	reads(t, "a or b and c", "a OR b AND c", expr(a, b, c, op(api.ExAnd, 2), op(api.ExOr, 2)))
	reads(t, "a||b+c", "a || b + c", expr(a, b, c, op(api.ExAdd, 2), op(api.ExCat, 2)))
	reads(t, "-a-b", "-a - b", expr(a, op(api.ExNeg, 1), b, op(api.ExSub, 2)))
	reads(t, "not a or b", "NOT a OR b", expr(a, op(api.ExNot, 1), b, op(api.ExOr, 2)))
	reads(t, "a between b and c and a", "a BETWEEN b AND c AND a", expr(a, b, c, op(api.ExBetween, 3), a, op(api.ExAnd, 2)))
	reads(t, "a between b||c and c+1 or a", "a BETWEEN b || c AND c + 1 OR a", expr(a, b, c, op(api.ExCat, 2), c, num(1), op(api.ExAdd, 2), op(api.ExBetween, 3), a, op(api.ExOr, 2)))
}

// P15.6: tokens with which no expression goes on.
func TestSyntaxOfExpressions(t *testing.T) {
	for text, place := range map[string]int{
		"a b": 2, "1 1": 2, "a 'b'": 2, "()": 1, "(a": 2, "a)": 1, "a,": 1, "a, b": 1, "+a": 0, "a +": 3, "a + + b": 4, "* a": 0, "a OR": 4, "a OR OR b": 5, "AND a": 0, "NOT": 3, "a NOT": 5, "a NOT b": 6, "a NOT NULL": 6, "a NOT NOT IN (1)": 6, "a NOT = b": 6, "1 + NOT a": 4, "- NOT a": 2, "a = NOT b": 4, "a = b = c": 6, "a < b > c": 6, "a = b IS NULL": 6, "a IS NULL IS NULL": 10, "a IS NULL = b": 10, "a IS": 4, "a IS TRUE": 5, "a IS NOT": 8, "a IS NOT TRUE": 9, "a IS NOT NOT NULL": 9, "a IN": 4, "a IN b": 5, "a IN ()": 6, "a IN (1": 7, "a IN (1,": 8, "a IN (1,)": 8, "a IN (1) IN (2)": 9, "a IN (SELECT": 6, "a BETWEEN": 9, "a BETWEEN 1": 11, "a BETWEEN 1 OR 2": 12, "a BETWEEN 1 AND": 15, "a BETWEEN 1 = 2 AND 3": 12, "a BETWEEN NOT 1 AND 2": 10, "a BETWEEN 1 AND NOT 2": 16, "a BETWEEN 1 AND 2 BETWEEN": 18, "a LIKE": 6, "a LIKE b LIKE c": 9, "a LIKE NOT b": 7, "a || NOT b": 5, "a || b = c || d = e": 16,
		"CASE": 4, "CASE END": 5, "CASE a": 5, "CASE WHEN": 9, "CASE WHEN a": 11, "CASE WHEN a END": 12, "CASE WHEN a THEN": 16, "CASE WHEN a THEN b": 18, "CASE WHEN a THEN b ELSE END": 24, "CASE WHEN a THEN b ELSE c WHEN": 26, "CASE WHEN a THEN b ELSE c ELSE": 26, "CASE ELSE a END": 5, "CASE WHEN a THEN b WHEN END": 24, "CASE WHEN a THEN b END END": 23, "abs(": 4, "abs()": 4, "abs(,": 4, "abs(1": 5, "abs(1,": 6, "abs(1,)": 6, "abs(1 2)": 6, "abs 1": 4, "abs(1)(2)": 6, "abs(*)": 4, "count(*)": 0, "COUNT(a)": 0, "SELECT": 0, "a + select": 4, "NULL NULL": 5, "NULL TRUE": 5, "TRUE FALSE": 5, "1 (2)": 2, "'a' (1)": 4, "NULL(1)": 4, "a.": -1, "@": 0, "a @": 2, "(a, b)": 2, "(a b)": 3, "a = (b": 6, "((a)": 4, "a;": 1,
	} {
		if place < 0 {
			exprFails(t, text, api.ErrChar, 1)
			continue
		}
		e, code, at := tongue.ParseExpr(text)
		want(t, fmt.Sprintf("P15.6: ParseExpr(%q)", text), []any{len(e), code, at}, []any{0, api.ErrSyntax, place})
	}
	exprFails(t, "", api.ErrSyntax, 0)
	e, code, at := tongue.ParseExpr(" /* */ ")
	want(t, "P15.6: no expression", []any{len(e), code, at}, []any{0, api.ErrSyntax, 7})
}

// P15.5, P15.6: functions with each number of arguments, and what is none.
func TestFunctions(t *testing.T) {
	for _, name := range []string{"abs", "length", "lower", "upper", "nullif", "substr", "coalesce", "least", "greatest"} {
		least, most := plainArguments(name)
		for n := 1; n <= 17; n++ {
			text := name + "(" + joined(n, "1") + ")"
			switch {
			case n > 16:
				exprFails(t, "a+"+text, api.ErrMany, 2+len(name)+32)
			case n < least || n > most:
				exprFails(t, "a+"+text, api.ErrFunction, 2)
				exprFails(t, "a+"+strings.ToUpper(name)+" ( "+joined(n, "1")+" ) !", api.ErrChar, 8+len(name)+2*n-1)
			default:
				e := make(api.Expr, n)
				for i := range e {
					e[i] = num(1)
				}
				reads(t, text, strings.ReplaceAll(text, ",", ", "), append(e, call(name, n)))
			}
		}
		exprFails(t, name+"()", api.ErrSyntax, len(name)+1)
		exprFails(t, "\""+strings.ToUpper(name)+"\"(1)", api.ErrFunction, 0)
		reads(t, strings.ToUpper(name), name, expr(col(name)))
	}
	for _, name := range []string{"foo", "a", "substring", "ab", "abss", "_", "\"SELECT\"", "\"abs \"", "\"a\"", "len", "\"\x00\"", "concat", "round"} {
		for _, rest := range []string{"(1)", "()", "(", "(1,2", " ( ) ) )", "/**/(((("} {
			e, code, at := tongue.ParseExpr("1 + " + name + rest)
			want(t, fmt.Sprintf("P15.6: ParseExpr(%q)", name+rest), []any{len(e), code, at}, []any{0, api.ErrFunction, 4})
			fails(t, "@1 SELECT a, -"+name+rest, api.ErrFunction, 14)
		}
	}
	exprFails(t, "abs(foo(1), 2)", api.ErrFunction, 4)
	exprFails(t, "abs(1, foo(1))", api.ErrFunction, 7)
	exprFails(t, "abs(1, abs(1, 2))", api.ErrFunction, 7)
	exprFails(t, "abs(1, 2 3)", api.ErrSyntax, 9)
	exprFails(t, "abs(1, 2", api.ErrSyntax, 8)
	exprFails(t, "substr(1, 2)", api.ErrFunction, 0)
	exprFails(t, "foo 1", api.ErrSyntax, 4)
	exprFails(t, "foo", api.OK, 0)
}

// nesting is one way to open a nesting: what stands ahead of what is nested, the place in it of the token that opens it, and what stands behind; the level of the whole, and which one it asks for within.
type nesting struct {
	head        string
	place       int
	token, tail string
	level, asks int
}

var nestings = []nesting{
	{"(", 0, "(", ")", 9, 1}, {"1 + (", 4, "(", ")", 6, 1}, {"abs(", 3, "(", ")", 9, 1}, {"nullif(1,", 6, "(", ")", 9, 1}, {"coalesce ( ", 9, "(", ",2)", 9, 1},
	{"a IN (", 5, "(", ")", 4, 1}, {"a NOT IN (1, ", 9, "(", ", 2)", 4, 1},
	{"CASE WHEN ", 0, "CASE", " THEN 1 END", 9, 1}, {"CASE WHEN a THEN b WHEN c THEN ", 0, "CASE", " ELSE 2 END", 9, 1}, {"CASE WHEN a THEN b ELSE ", 0, "CASE", " END", 9, 1},
	{"NOT ", 0, "NOT", "", 3, 3}, {"a OR b AND NOT ", 11, "NOT", " AND c", 1, 3}, {"- ", 0, "-", "", 8, 8}, {"a = - ", 4, "-", "", 4, 8}, {"a - -", 4, "-", " - b", 6, 8},
}

// deep puts nestings round an operand, by turns, and tells the place of the one that is one too many.
func deep(n int, turns ...nesting) (text string, place int) {
	tail := ""
	for i := range n {
		x := turns[i%len(turns)]
		if i == api.MaxDepth {
			place = len(text) + x.place
		}
		text += x.head
		tail = x.tail + tail
	}
	return text + "1" + tail, place
}

// P15.6: as many nestings as may be open, and one more, of each kind and mixed.
func TestDeep(t *testing.T) {
	tried := 0
	for _, outer := range nestings {
		for _, inner := range nestings {
			if inner.level < outer.asks || outer.level < inner.asks {
				continue
			}
			tried++
			full, _ := deep(32, outer, inner)
			exprFails(t, full, api.OK, 0)
			exprFails(t, full+" OR "+full, api.OK, 0)
			more, place := deep(33, outer, inner)
			exprFails(t, more, api.ErrDeep, place)
			exprFails(t, more[:place+len(outer.token)], api.ErrDeep, place)
		}
	}
	if tried < 100 {
		t.Errorf("only %d pairs were tried", tried)
	}
}

// P15.6: where nestings end, and what opens none.
func TestNestingsEnd(t *testing.T) {
	in := func(n int, within string) string { return many(n, "(") + within + many(n, ")") }
	for _, within := range []string{"a IS NOT NULL", "a NOT BETWEEN 1 AND 2", "a NOT LIKE b", "a - b", "a = b", "abs", "NULL", "a BETWEEN 1 AND 2"} {
		exprFails(t, in(32, within), api.OK, 0)
		exprFails(t, in(33, within), api.ErrDeep, 32)
	}
	for _, within := range []string{"-a * -b - -c || -d", "NOT a AND NOT b OR NOT c", "(a) + (b)", "abs(a) + abs(b)", "a IN (1) OR b IN (2)", "CASE WHEN a THEN b END + CASE WHEN a THEN b END", "-a = -b", "NOT a = b AND c", "NOT a BETWEEN 1 AND 2 AND NOT b"} {
		exprFails(t, in(31, within), api.OK, 0)
		if _, e, _ := tongue.ParseExpr(in(32, within)); e != api.ErrDeep {
			t.Errorf("P15.6: %q: %d", in(32, within), e)
		}
	}
	exprFails(t, in(31, "NOT a = -b"), api.ErrDeep, 31+8)
	exprFails(t, in(31, "NOT a IN (1)"), api.ErrDeep, 31+9)
	exprFails(t, in(31, "NOT a BETWEEN 1 AND -2"), api.ErrDeep, 31+20)
	exprFails(t, in(31, "NOT a BETWEEN 1 AND 2 AND -b"), api.OK, 0)
	exprFails(t, in(31, "-a IN (-1)"), api.ErrDeep, 31+7)
	exprFails(t, in(31, "(a) IN (b, (c))"), api.ErrDeep, 31+11)
	exprFails(t, in(31, "CASE WHEN a THEN b ELSE -c END"), api.ErrDeep, 31+24)
	exprFails(t, in(32, "abs(1)"), api.ErrDeep, 32+3)
	exprFails(t, in(32, "foo(1)"), api.ErrFunction, 32)
	exprFails(t, many(32, "(")+"foo(", api.ErrFunction, 32)
	exprFails(t, in(32, "abs (1, 2)"), api.ErrDeep, 32+4)
	exprFails(t, in(31, "abs(1, 2)"), api.ErrFunction, 31)
	exprFails(t, in(32, "a")+" + foo(1)", api.ErrFunction, 68)
	exprFails(t, many(32, "(")+"(", api.ErrDeep, 32)
	exprFails(t, many(32, "(")+")", api.ErrSyntax, 32)
	exprFails(t, many(32, "(")+"a b (", api.ErrSyntax, 34)
	exprFails(t, many(40, "("), api.ErrDeep, 32)
	exprFails(t, many(33, "- ")+"1", api.ErrDeep, 64)
	exprFails(t, many(33, "NOT ")+"1", api.ErrDeep, 128)
}

// P15.6: each expression of a statement begins with none open; brackets of rows, names and aggregates open none.
func TestNestingsOfStatements(t *testing.T) {
	full := many(32, "(") + "a" + many(32, ")")
	more := "(" + full + ")"
	for _, x := range [][2]string{
		{"@1 INSERT INTO t (a) VALUES (" + full + ", ", "), (" + full + ");"}, {"@1 SELECT " + full + ", ", " AS b FROM t WHERE " + full + ";"}, {"@1 SELECT SUM(" + full + "), SUM(", ") FROM t;"}, {"@1 SELECT COUNT(", ") FROM t;"}, {"@1 SELECT MIN(" + full + ") FROM t WHERE ", " ORDER BY a;"},
		{"@1 UPDATE t SET a = " + full + ", b = ", " WHERE " + full + ";"}, {"@1 UPDATE t SET a = " + full + " WHERE ", ";"}, {"@1 DELETE FROM t WHERE ", ";@1 DELETE FROM t WHERE " + full + ";"},
	} {
		fails(t, x[0]+full+x[1], api.OK, 0)
		fails(t, x[0]+more+x[1], api.ErrDeep, len(x[0])+32)
	}
}

// P15.6: the WHENs of a CASE.
func TestManyWhens(t *testing.T) {
	full := "CASE" + many(16, " WHEN a THEN b")
	exprFails(t, full+" END", api.OK, 0)
	exprFails(t, full+" ELSE c END", api.OK, 0)
	exprFails(t, full+" WHEN a THEN b END", api.ErrMany, len(full)+1)
	exprFails(t, full+" WHEN", api.ErrMany, len(full)+1)
	exprFails(t, full+" ELSE c WHEN", api.ErrSyntax, len(full)+8)
	exprFails(t, full+" THEN", api.ErrSyntax, len(full)+1)
	exprFails(t, "CASE WHEN "+full+" END THEN "+full+" END ELSE "+full+" END END", api.OK, 0)
	e, _, _ := tongue.ParseExpr(full + " END")
	want(t, "P15.4: the greatest CASE", e[len(e)-1], op(api.ExCase, 33))
	e, _, _ = tongue.ParseExpr("a IN (" + joined(16, "1") + ")")
	want(t, "P15.4: the greatest IN", e[len(e)-1], op(api.ExIn, 17))
}
