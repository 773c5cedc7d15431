package tongue_test

import (
	"fmt"
	"math"
	"os"
	"runtime/debug"
	"strings"
	"testing"

	"strata/api"
	"strata/tongue"
)

// The tests make many texts that live shortly: collecting them that often would take most of the time.
func TestMain(m *testing.M) {
	debug.SetGCPercent(800)
	os.Exit(m.Run())
}

// want holds what was answered against what should have been.
func want(t *testing.T, what string, got, right any) {
	t.Helper()
	if a, b := fmt.Sprintf("%+v", got), fmt.Sprintf("%+v", right); a != b {
		t.Errorf("%s: %.900s, want %.900s", what, a, b)
	}
}

// strange are numbers at and beyond all bounds.
func strange() []int {
	return []int{math.MinInt, math.MinInt32, -2, -1, 0, 1, 2, 3, 4, 5, 6, 7, 8, 9, 10, 12, 13, 15, 16, 17, 28, 29, 30, 32, 33, 34, 64, 65, 1 << 31, 1 << 62, math.MaxInt - 1, math.MaxInt}
}

func many(n int, text string) string { return strings.Repeat(text, n) }

// joined writes a text n times with commas between.
func joined(n int, text string) string { return many(n-1, text+",") + text }

// tok, key, sign and number make tokens; where they stand is told by the one who asks.
func tok(kind int, text string) api.Token { return api.Token{Kind: kind, Text: text} }

func name(text string) api.Token { return tok(api.TokName, text) }

func key(text string) api.Token { return tok(api.TokKey, text) }

func literal(text string) api.Token { return tok(api.TokText, text) }

func sign(text string) api.Token { return tok(api.TokSign, text) }

func number(n int64) api.Token { return api.Token{Kind: api.TokInt, Num: n} }

// lexes holds the tokens of a text against the right ones, of which the places are told too, and the end's is the text's length.
func lexes(t *testing.T, text string, places []int, right ...api.Token) {
	t.Helper()
	for i := range right {
		right[i].At = places[i]
	}
	right = append(right, api.Token{Kind: api.TokEnd, At: len(text)})
	got, e, at := tongue.Lex(text)
	want(t, fmt.Sprintf("P15.1: Lex(%.60q)", text), []any{got, e, at}, []any{right, api.OK, 0})
}

// lexFails holds the error of a text's tokens against the right one; the readers tell the same.
func lexFails(t *testing.T, text string, code api.Errno, place int) {
	t.Helper()
	tokens, e, at := tongue.Lex(text)
	want(t, fmt.Sprintf("P15.2: Lex(%.60q)", text), []any{len(tokens), e, at}, []any{0, code, place})
	cs, e, at := tongue.Parse(text)
	want(t, fmt.Sprintf("P15.6: Parse(%.60q)", text), []any{len(cs), e, at}, []any{0, code, place})
	x, e, at := tongue.ParseExpr(text)
	want(t, fmt.Sprintf("P15.6: ParseExpr(%.60q)", text), []any{len(x), e, at}, []any{0, code, place})
}

// fails holds the error of a script against the right one.
func fails(t *testing.T, text string, code api.Errno, place int) {
	t.Helper()
	cs, e, at := tongue.Parse(text)
	if code != api.OK {
		want(t, fmt.Sprintf("P15.6: Parse(%.90q)", text), []any{len(cs), e, at}, []any{0, code, place})
		return
	}
	want(t, fmt.Sprintf("P15.6: Parse(%.90q)", text), []any{e, at}, []any{code, place})
}

// exprFails holds the error of an expression against the right one, alone and within a script.
func exprFails(t *testing.T, text string, code api.Errno, place int) {
	t.Helper()
	e, err, at := tongue.ParseExpr(text)
	if code != api.OK {
		want(t, fmt.Sprintf("P15.6: ParseExpr(%.90q)", text), []any{len(e), err, at}, []any{0, code, place})
		place += len("@1 DELETE FROM t WHERE ")
	} else {
		want(t, fmt.Sprintf("P15.6: ParseExpr(%.90q)", text), []any{err, at}, []any{code, place})
	}
	fails(t, "@1 DELETE FROM t WHERE "+text+";", code, place)
}

func num(n int64) api.Node { return api.Node{Op: api.ExInt, Num: n} }

func col(name string) api.Node { return api.Node{Op: api.ExCol, Text: name} }

func text(text string) api.Node { return api.Node{Op: api.ExText, Text: text} }

func op(op, n int) api.Node { return api.Node{Op: op, N: n} }

func call(name string, n int) api.Node { return api.Node{Op: api.ExCall, N: n, Text: name} }

func expr(nodes ...api.Node) api.Expr { return nodes }

// over lays an operation over expressions.
func over(o api.Node, of ...api.Expr) api.Expr {
	var e api.Expr
	for _, x := range of {
		e = append(e, x...)
	}
	o.N = len(of)
	return append(e, o)
}

// statement makes the command of a statement of session 1.
func statement(s api.Stmt) api.Command {
	return api.Command{Kind: api.CmStmt, Who: 1, Stmt: s}
}

// reads holds what an expression's text gives against the right list and its print.
func reads(t *testing.T, text, print string, right api.Expr) {
	t.Helper()
	e, err, at := tongue.ParseExpr(text)
	want(t, "P15.4: ParseExpr("+text+")", []any{e, err, at}, []any{right, api.OK, 0})
	prints(t, right, print)
}

// prints holds an expression's print against the right one, and reads it again.
func prints(t *testing.T, e api.Expr, right string) {
	t.Helper()
	got, err := tongue.PrintExpr(e)
	want(t, fmt.Sprintf("P15.9: PrintExpr(%+v)", e), []any{got, err}, []any{right, api.OK})
	again, err, at := tongue.ParseExpr(got)
	want(t, "P15.8: ParseExpr("+got+")", []any{again, err, at}, []any{e, api.OK, 0})
}

// gives holds what a command's text gives against the right one and its print.
func gives(t *testing.T, text, print string, right api.Command) {
	t.Helper()
	cs, e, at := tongue.Parse(text)
	want(t, "P15.3: Parse("+text+")", []any{cs, e, at}, []any{[]api.Command{right}, api.OK, 0})
	got, e := tongue.Print(right)
	want(t, "P15.8: Print of "+text, []any{got, e}, []any{print + "\n", api.OK})
	cs, e, at = tongue.Parse(got)
	want(t, "P15.8: Parse("+got+")", []any{cs, e, at}, []any{[]api.Command{right}, api.OK, 0})
	want(t, "P15.7: Valid of "+text, tongue.Valid(right), true)
}

// isExpr tells whether a list is an expression, and holds all calls that ask for it against each other.
func isExpr(t *testing.T, e api.Expr) bool {
	t.Helper()
	print, err := tongue.PrintExpr(e)
	if good := err == api.OK; good != (print != "") || !good && err != api.ErrTree {
		t.Errorf("P15.9: PrintExpr(%.200v) = %.90q, %d", e, print, err)
	}
	item := api.Stmt{Kind: api.StSelect, Table: "t", Limit: -1, Items: []api.Item{{Of: e}}}
	row := api.Stmt{Kind: api.StInsert, Table: "t", Rows: [][]api.Expr{{e}}}
	set := api.Stmt{Kind: api.StUpdate, Table: "t", Names: []string{"a"}, Rows: [][]api.Expr{{e}}}
	where := api.Stmt{Kind: api.StDelete, Table: "t", Where: e}
	sum := api.Stmt{Kind: api.StSelect, Table: "t", Limit: -1, Items: []api.Item{{Agg: api.AgSum, Of: e}}}
	for _, s := range []api.Stmt{item, row, set, where, sum} {
		if s.Kind == api.StDelete && len(e) == 0 {
			continue // there an empty one is none
		}
		if good := tongue.Valid(statement(s)); good != (err == api.OK) {
			t.Errorf("P15.7: Valid(%.200v) = %v, but PrintExpr tells %d", s, good, err)
		}
	}
	return err == api.OK
}
