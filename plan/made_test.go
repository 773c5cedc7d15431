package plan_test

import (
	"fmt"
	"math"
	"math/rand"
	"runtime"
	"slices"
	"sync"
	"sync/atomic"
	"testing"

	"strata/api"
)

// maker makes things up.
type maker struct{ *rand.Rand }

func newMaker(seed int64) *maker { return &maker{rand.New(rand.NewSource(seed))} }

// one is true one time in n.
func (m *maker) one(n int) bool { return m.Intn(n) == 0 }

func pick[T any](m *maker, of ...T) T { return of[m.Intn(len(of))] }

// times makes n things.
func times[T any](n int, made func() T) []T {
	var list []T
	for range n {
		list = append(list, made())
	}
	return list
}

// met counts the codes that came up.
type met [200]atomic.Int64

func (c *met) atLeast(t *testing.T, n int64, codes ...api.Errno) {
	t.Helper()
	for _, code := range codes {
		if c[code].Load() < n {
			t.Errorf("the code %d came up %d times", code, c[code].Load())
		}
	}
}

// inBatches tries a thing n times, on all processors; what it tells is a fault.
func inBatches(t *testing.T, n int, try func(m *maker) string) {
	t.Helper()
	var group sync.WaitGroup
	workers := runtime.GOMAXPROCS(0)
	for w := range workers {
		group.Go(func() {
			for seed := w; seed < n && !t.Failed(); seed += workers {
				if fault := try(newMaker(int64(seed))); fault != "" {
					t.Errorf("seed %d: %.3000s", seed, fault)
				}
			}
		})
	}
	group.Wait()
}

// kind is one of a column.
func (m *maker) kind() api.Kind { return pick(m, api.KBool, api.KInt, api.KInt, api.KText) }

// text has characters of one to four bytes, and bytes that are none.
func (m *maker) text() string {
	text := ""
	for range m.Intn(pick(m, 1, 3, 5)) {
		text += pick(m, "a", "b", "a", "b", "A", "Z", "%", "_", "\x00", "é", "€", "\U0001f600", "\xc3", "\xff", "\xe2\x82", "\xf0\x9f\x98", "\ufffd")
	}
	return text
}

// number is mostly a small one, or one at an end.
func (m *maker) number() int64 {
	if m.one(6) {
		return pick[int64](m, math.MinInt64, math.MinInt64+1, math.MaxInt64, math.MaxInt64-1, 1<<32, -1<<32, 3037000500, -3037000499, 256, -257)
	}
	return int64(m.Intn(7) - 2)
}

// value is one of a kind that is not null.
func (m *maker) value(kind api.Kind) api.Value {
	switch kind {
	case api.KBool:
		return bo(m.one(2))
	case api.KInt:
		return in(m.number())
	}
	return tx(m.text())
}

// wrongValue is of any kind, valid or not.
func (m *maker) wrongValue() api.Value {
	return pick(m, null, bo(true), in(1), tx("x"), tx(many(api.MaxText+1, "x")), tx(many(600, "x")), api.Value{Kind: api.KBool, Int: 2}, api.Value{Kind: api.KInt, Text: "x"}, api.Value{Kind: 4}, api.Value{Kind: -1}, api.Value{Int: 1})
}

// columns makes n of them with unlike names.
func (m *maker) columns(n int) []api.ColDef {
	var cols []api.ColDef
	for i := range n {
		cols = append(cols, col(fmt.Sprintf("%c%d", 'a'+i%3, i), m.kind(), m.one(3)))
	}
	return cols
}

// table makes one.
func (m *maker) table() api.Table {
	u := api.Table{Name: pick(m, "t", "u", "T ", many(32, "n")), Number: pick[int64](m, 1, 2, 7, 300, math.MaxInt64), Cols: m.columns(1 + m.Intn(pick(m, 3, 6, 16)))}
	for _, place := range m.Perm(len(u.Cols))[:1+m.Intn(min(8, len(u.Cols)))] {
		u.Cols[place].NotNull = true
		u.Key = append(u.Key, place)
	}
	return u
}

// row makes one of a table, which is mostly well.
func (m *maker) row(u api.Table) []api.Value {
	values := make([]api.Value, len(u.Cols))
	for i, c := range u.Cols {
		values[i] = m.value(c.Type)
		if !c.NotNull && m.one(4) || m.one(100) {
			values[i] = null
		}
		if m.one(100) {
			values[i] = m.wrongValue()
		}
		if c.Type == api.KText && m.one(20) {
			values[i] = tx(many(m.Intn(300), "x"))
		}
	}
	return values
}

// goodRow makes one that is well.
func (m *maker) goodRow(u api.Table) []api.Value {
	for {
		if values := m.row(u); plainRowCode(u, values) == api.OK {
			return values
		}
	}
}

func op(op int) api.Node { return api.Node{Op: op} }

func call(name string) api.Node { return api.Node{Op: api.ExCall, Text: name} }

// over lays a node over its operands.
func over(n api.Node, of ...api.Expr) api.Expr {
	n.N = len(of)
	return append(slices.Concat(of...), n)
}

// written tells an expression that is a value.
func written(v api.Value) api.Expr {
	switch {
	case v.Kind == api.KBool && v.Int == 1:
		return over(op(api.ExTrue))
	case v.Kind == api.KBool:
		return over(op(api.ExFalse))
	case v.Kind == api.KText:
		return over(api.Node{Op: api.ExText, Text: v.Text})
	case v.Kind == api.KNull:
		return over(op(api.ExNull))
	case v.Int == math.MinInt64:
		return over(op(api.ExSub), written(in(v.Int+1)), written(in(1)))
	case v.Int < 0:
		return over(op(api.ExNeg), written(in(-v.Int)))
	}
	return over(api.Node{Op: api.ExInt, Num: v.Int})
}

func named(name string) api.Expr { return over(api.Node{Op: api.ExCol, Text: name}) }

// leaf is a column of a kind, or a value.
func (m *maker) leaf(cols []api.ColDef, kind api.Kind) api.Expr {
	switch {
	case kind == api.KNull || m.one(12):
		return written(null)
	case m.one(300):
		return named("nowhere")
	case m.one(2):
		for _, place := range m.Perm(len(cols)) {
			if cols[place].Type == kind {
				return named(cols[place].Name)
			}
		}
	}
	return written(m.value(kind))
}

// expr makes an expression of a kind over columns; at times one that does not fit.
func (m *maker) expr(cols []api.ColDef, kind api.Kind, depth int) api.Expr {
	if m.one(150) {
		kind = api.Kind(m.Intn(4))
	}
	if depth <= 0 || m.one(6) {
		return m.leaf(cols, kind)
	}
	of := func(kind api.Kind) api.Expr { return m.expr(cols, kind, depth-1) }
	several := func(least, most int, kind api.Kind) []api.Expr {
		return times(least+m.Intn(most-least+1), func() api.Expr { return of(kind) })
	}
	switch m.Intn(12) {
	case 0:
		var parts []api.Expr
		for range 1 + m.Intn(2) {
			parts = append(parts, of(api.KBool), of(kind))
		}
		return over(op(api.ExCase), append(parts, of(kind))...)
	case 1:
		return over(call("nullif"), of(kind), of(kind))
	case 2:
		return over(call(pick(m, "coalesce", "least", "greatest")), several(1, 3, kind)...)
	}
	switch kind {
	case api.KInt:
		return pick(m,
			func() api.Expr { return over(op(api.ExNeg), of(api.KInt)) },
			func() api.Expr { return over(op(api.ExAdd+m.Intn(5)), of(api.KInt), of(api.KInt)) },
			func() api.Expr { return over(op(api.ExAdd+m.Intn(5)), of(api.KInt), of(api.KInt)) },
			func() api.Expr { return over(call("abs"), of(api.KInt)) },
			func() api.Expr { return over(call("length"), of(api.KText)) })()
	case api.KText:
		return pick(m,
			func() api.Expr { return over(op(api.ExCat), of(api.KText), of(api.KText)) },
			func() api.Expr { return over(call(pick(m, "lower", "upper")), of(api.KText)) },
			func() api.Expr { return over(call("substr"), of(api.KText), of(api.KInt), of(api.KInt)) })()
	case api.KNull:
		return m.leaf(cols, kind)
	}
	return m.test(cols, depth-1)
}

// test makes an expression that is true, false or null.
func (m *maker) test(cols []api.ColDef, depth int) api.Expr {
	kind := pick(m, api.KBool, api.KInt, api.KText)
	of := func(kind api.Kind) api.Expr { return m.expr(cols, kind, depth) }
	switch m.Intn(8) {
	case 0:
		return over(op(api.ExNot), of(api.KBool))
	case 1, 2:
		return over(op(pick(m, api.ExAnd, api.ExOr)), of(api.KBool), of(api.KBool))
	case 3:
		return over(op(pick(m, api.ExIsNull, api.ExNotNull)), of(kind))
	case 4:
		return over(op(api.ExLike), of(api.KText), of(api.KText))
	case 5:
		return over(op(api.ExBetween), of(kind), of(kind), of(kind))
	case 6:
		return over(op(api.ExIn), times(2+m.Intn(3), func() api.Expr { return of(kind) })...)
	}
	return over(op(api.ExEq+m.Intn(6)), of(kind), of(kind))
}
