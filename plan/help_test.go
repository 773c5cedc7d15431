package plan_test

import (
	"fmt"
	"math"
	"os"
	"runtime/debug"
	"strings"
	"testing"

	"strata/api"
	"strata/engine"
	"strata/plan"
	"strata/tongue"
)

// The tests make many things that live shortly: collecting them that often would take most of the time.
func TestMain(m *testing.M) {
	debug.SetGCPercent(800)
	os.Exit(m.Run())
}

// want holds what was answered against what should have been.
func want(t *testing.T, what string, got, right any) {
	t.Helper()
	if a, b := fmt.Sprintf("%+v", got), fmt.Sprintf("%+v", right); a != b {
		t.Errorf("%s: %.900s, want %.900s", what, a, b)
	}
}

// list puts answers side by side.
func list(of ...any) []any { return of }

// strange are numbers at and beyond all bounds.
func strange() []int {
	return []int{math.MinInt, math.MinInt32, -2, -1, 0, 1, 2, 3, 4, 5, 6, 7, 8, 9, 10, 15, 16, 17, 29, 30, 32, 33, 64, 65, 255, 256, 1 << 31, 1 << 62, math.MaxInt - 1, math.MaxInt}
}

func many(n int, text string) string { return strings.Repeat(text, n) }

var null = api.Value{}

func in(n int64) api.Value { return api.Value{Kind: api.KInt, Int: n} }

func tx(s string) api.Value { return api.Value{Kind: api.KText, Text: s} }

func bo(is bool) api.Value {
	if is {
		return api.Value{Kind: api.KBool, Int: 1}
	}
	return api.Value{Kind: api.KBool}
}

func row(values ...api.Value) []api.Value { return values }

// expr reads an expression.
func expr(t *testing.T, text string) api.Expr {
	t.Helper()
	e, code, at := tongue.ParseExpr(text)
	if code != api.OK {
		t.Fatalf("ParseExpr(%.300q): %d at %d", text, code, at)
	}
	return e
}

// stmt reads a statement.
func stmt(t *testing.T, text string) api.Stmt {
	t.Helper()
	cs, code, at := tongue.Parse("@1 " + text + ";")
	if code != api.OK || len(cs) != 1 {
		t.Fatalf("Parse(%.300q): %d at %d", text, code, at)
	}
	return cs[0].Stmt
}

// define makes a table of a CREATE TABLE.
func define(t *testing.T, text string, number int64) api.Table {
	t.Helper()
	u, code := plan.Define(stmt(t, text), number)
	if code != api.OK {
		t.Fatalf("P16.1: Define(%s): %d", text, code)
	}
	return u
}

// chapterTable is the table of the chapter's examples.
func chapterTable(t *testing.T) api.Table {
	return define(t, "CREATE TABLE t (a INT, b TEXT, c BOOL NOT NULL, PRIMARY KEY (b, a))", 7)
}

// roomyEngine is one in which nothing gets full.
func roomyEngine(t *testing.T, sessions int) *engine.Engine {
	t.Helper()
	return engineOf(t, api.Config{Slots: 400, Buckets: 4, TxSlots: 16, Sessions: sessions})
}

func engineOf(t *testing.T, c api.Config, rows ...api.Row) *engine.Engine {
	t.Helper()
	e, code := engine.New(c, rows...)
	if code != api.OK {
		t.Fatalf("engine.New(%+v): %d", c, code)
	}
	return e
}

// does runs statements in one session.
func does(t *testing.T, e *engine.Engine, session int, texts ...string) []api.Result {
	t.Helper()
	var ss []api.Stmt
	for _, text := range texts {
		ss = append(ss, stmt(t, text))
	}
	rs, code := plan.Do(e, session, ss...)
	if code != api.OK || len(rs) != len(ss) {
		t.Fatalf("P16.11: Do(%d, %.200q): %+v, %d", session, texts, rs, code)
	}
	return rs
}

// doesOne runs one statement.
func doesOne(t *testing.T, e *engine.Engine, session int, text string) api.Result {
	t.Helper()
	return does(t, e, session, text)[0]
}

// good runs statements that all have to be OK.
func good(t *testing.T, e *engine.Engine, session int, texts ...string) []api.Result {
	t.Helper()
	rs := does(t, e, session, texts...)
	for i, r := range rs {
		if r.Code != api.OK {
			t.Fatalf("P16.10: %s: %+v", texts[i], r)
		}
	}
	return rs
}

// calls makes calls of the engine by hand, which all have to be OK.
func calls(t *testing.T, e *engine.Engine, session int, cs ...api.Call) []api.Answer {
	t.Helper()
	as, code := e.Calls(session, cs...)
	if code != api.OK {
		t.Fatalf("Calls(%d, %+v): %+v, %d", session, cs, as, code)
	}
	for i, a := range as {
		if a.Code != api.OK {
			t.Fatalf("Calls(%d, %+v): %+v", session, cs[i], a)
		}
	}
	return as
}

func begin(iso int) api.Call { return api.Call{Kind: api.CallBegin, Iso: iso} }

func get(key string) api.Call { return api.Call{Kind: api.CallGet, Key: key} }

func insert(key, data string) api.Call { return api.Call{Kind: api.CallInsert, Key: key, Data: data} }

func update(key, data string) api.Call { return api.Call{Kind: api.CallUpdate, Key: key, Data: data} }

func remove(key string) api.Call { return api.Call{Kind: api.CallDelete, Key: key} }

func scan(low, high string) api.Call { return api.Call{Kind: api.CallScan, Key: low, High: high} }

func commit() api.Call { return api.Call{Kind: api.CallCommit} }

func abort() api.Call { return api.Call{Kind: api.CallAbort} }
