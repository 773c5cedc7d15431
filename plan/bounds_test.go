package plan_test

import (
	"fmt"
	"math"
	"slices"
	"strings"
	"testing"

	"strata/api"
	"strata/bits"
	"strata/plan"
	"strata/tongue"
)

// P16.7: the chapter's examples, and each thing that a part can say.
func TestBounds(t *testing.T) {
	u := chapterTable(t) // a INT, b TEXT, c BOOL; the key is b, a
	const all, end = "\x39\x07", "\x39\x08"
	const x, y = "\x39\x07\x50x\x00\x01", "\x39\x07\x50y\x00\x01"
	for _, c := range []struct{ text, low, high string }{
		{"", all, end}, {"b = 'x' AND a > 4 AND a > 2", "\x39\x07\x50x\x00\x01\x39\x05", "\x39\x07\x50x\x00\x02"}, {"'x' = b AND a = -1", "\x39\x07\x50x\x00\x01\x37", "\x39\x07\x50x\x00\x01\x37\x00"}, {"a = 5", all, end},
		// each comparison, in both orders
		{"b = 'x'", x, "\x39\x07\x50x\x00\x02"}, {"b < 'x'", all, x}, {"b <= 'x'", all, "\x39\x07\x50x\x00\x02"}, {"b > 'x'", "\x39\x07\x50x\x00\x02", end}, {"b >= 'x'", x, end}, {"b <> 'x'", all, end},
		{"'x' = b", x, "\x39\x07\x50x\x00\x02"}, {"'x' > b", all, x}, {"'x' >= b", all, "\x39\x07\x50x\x00\x02"}, {"'x' < b", "\x39\x07\x50x\x00\x02", end}, {"'x' <= b", x, end}, {"'x' <> b", all, end},
		{"b BETWEEN 'x' AND 'y'", x, "\x39\x07\x50y\x00\x02"}, {"b BETWEEN 'y' AND 'x'", y, "\x39\x07\x50x\x00\x02"}, {"b NOT BETWEEN 'x' AND 'y'", all, end}, {"'x' BETWEEN b AND b", all, end}, {"b BETWEEN 'x' AND b", all, end}, {"b BETWEEN b AND 'x'", all, end}, {"b BETWEEN 'x' AND NULL", all, end}, {"b BETWEEN NULL AND 'x'", all, end}, {"b BETWEEN 'x' AND lower('y')", all, end},
		// what says nothing
		{"NULL", all, end}, {"TRUE", all, end}, {"FALSE", all, end}, {"c", all, end}, {"b = NULL", all, end}, {"NULL = b", all, end}, {"b = b", all, end}, {"b = lower('X')", all, end}, {"b = 'x' || 'y'", all, end}, {"b = 'x' OR a = 5", all, end}, {"NOT b = 'x'", all, end}, {"NOT (NOT b = 'x')", all, end}, {"b IN ('x')", all, end}, {"b LIKE 'x'", all, end}, {"b IS NULL", all, end}, {"b IS NOT NULL", all, end}, {"(b = 'x') = TRUE", all, end}, {"'x' = 'x'", all, end}, {"coalesce(b = 'x', TRUE)", all, end}, {"c = TRUE", all, end}, {"upper(b) = 'x'", all, end}, {"CASE WHEN TRUE THEN b = 'x' END", all, end},
		// parts in any order and nesting
		{"a = 1 AND b = 'x'", x + "\x39\x01", x + "\x39\x01\x00"}, {"c AND (a = 1 AND (c AND b = 'x'))", x + "\x39\x01", x + "\x39\x01\x00"}, {"(c AND b = 'x') AND (a = 1 AND c)", x + "\x39\x01", x + "\x39\x01\x00"}, {"b = 'x' AND (a = 1 OR c)", x, "\x39\x07\x50x\x00\x02"}, {"NOT (b = 'x' AND a = 1)", all, end}, {"b = 'x' AND a <> 1", x, "\x39\x07\x50x\x00\x02"},
		// several that say the same
		{"b = 'x' AND b = 'y'", x, "\x39\x07\x50x\x00\x02"}, {"b = 'y' AND b = 'x'", y, "\x39\x07\x50y\x00\x02"}, {"b = 'x' AND b > 'y'", x, "\x39\x07\x50x\x00\x02"}, {"b > 'y' AND b = 'x'", x, "\x39\x07\x50x\x00\x02"},
		{"b > 'x' AND b >= 'x'", "\x39\x07\x50x\x00\x02", end}, {"b >= 'x' AND b > 'x'", "\x39\x07\x50x\x00\x02", end}, {"b >= 'y' AND b > 'x'", y, end}, {"b > 'x' AND b >= 'y'", y, end}, {"b >= 'x' AND b >= 'y' AND b >= 'x'", y, end}, {"b > 'x' AND b > 'y'", "\x39\x07\x50y\x00\x02", end},
		{"b < 'x' AND b <= 'x'", all, x}, {"b <= 'x' AND b < 'x'", all, x}, {"b <= 'x' AND b < 'y'", all, "\x39\x07\x50x\x00\x02"}, {"b < 'y' AND b <= 'x'", all, "\x39\x07\x50x\x00\x02"}, {"b < 'y' AND b < 'x' AND b < 'y'", all, x}, {"b <= 'y' AND b <= 'x'", all, "\x39\x07\x50x\x00\x02"},
		{"b > 'y' AND b < 'x'", "\x39\x07\x50y\x00\x02", x}, {"b BETWEEN 'x' AND 'y' AND b > 'x' AND b < 'y'", "\x39\x07\x50x\x00\x02", y}, {"b BETWEEN 'a' AND 'z' AND b BETWEEN 'x' AND 'y'", x, "\x39\x07\x50y\x00\x02"}, {"b >= 'x' AND b <= 'x'", x, "\x39\x07\x50x\x00\x02"},
		{"b = 'x' AND a >= 1 AND a < 3", x + "\x39\x01", x + "\x39\x03"}, {"b = 'x' AND a > 255", x + "\x3a", "\x39\x07\x50x\x00\x02"}, {"b = 'x' AND a <= 255", x, x + "\x3a"}, {"b > 'x' AND a = 1", "\x39\x07\x50x\x00\x02", end}, {"b > 'x' AND a > 1", "\x39\x07\x50x\x00\x02", end},
		// plain values
		{"b = 'x' AND a = 0", x + "\x38", x + "\x38\x00"}, {"b = 'x' AND a = -0", x + "\x38", x + "\x38\x00"}, {"b = 'x' AND a = - -1", x, "\x39\x07\x50x\x00\x02"}, {"b = 'x' AND a = -(1)", x + "\x37", x + "\x37\x00"}, {"b = 'x' AND a = 1 + 1", x, "\x39\x07\x50x\x00\x02"}, {"b = 'x' AND -1 = a", x + "\x37", x + "\x37\x00"}, {"b = 'x' AND -a = 1", x, "\x39\x07\x50x\x00\x02"}, {"b = 'x' AND a = -NULL", x, "\x39\x07\x50x\x00\x02"}, {"b = 'x' AND a = - -0", x, "\x39\x07\x50x\x00\x02"},
		{"b = ''", "\x39\x07\x50\x00\x01", "\x39\x07\x50\x00\x02"}, {"b = x'00ff'", "\x39\x07\x50\x00\xff\xff\x00\x01", "\x39\x07\x50\x00\xff\xff\x00\x02"}, {"b = 'x' AND a = 9223372036854775807", x + "\x40\x7f\xff\xff\xff\xff\xff\xff\xff", x + "\x40\x7f\xff\xff\xff\xff\xff\xff\xff\x00"}, {"b = 'x' AND a > 9223372036854775807", x + "\x40\x80", "\x39\x07\x50x\x00\x02"},
	} {
		var e api.Expr
		if c.text != "" {
			e = expr(t, c.text)
		}
		low, high, code := plan.Bounds(u, e)
		want(t, "P16.7: Bounds("+c.text+")", fmt.Sprintf("%q %q %d", low, high, code), fmt.Sprintf("%q %q %d", c.low, c.high, api.OK))
		low, high = plainBounds(u, e)
		want(t, "P16.7 a second time: Bounds("+c.text+")", fmt.Sprintf("%q %q", low, high), fmt.Sprintf("%q %q", c.low, c.high))
	}
	for _, c := range []struct {
		text string
		code api.Errno
	}{{"a", api.ErrType}, {"a + 1", api.ErrType}, {"'x'", api.ErrType}, {"b = 1", api.ErrType}, {"z = 1", api.ErrColumn}, {"z", api.ErrColumn}, {"c", api.OK}, {"NULL", api.OK}, {"coalesce(NULL)", api.OK}, {"1 / 0 = 1", api.OK}} {
		low, high, code := plan.Bounds(u, expr(t, c.text))
		want(t, "P16.7: Bounds("+c.text+")", code, c.code)
		if code != api.OK {
			want(t, "P16.7: beside an error", low+high, "")
		}
	}
	v := define(t, "CREATE TABLE v (p BOOL, q INT, PRIMARY KEY (p))", math.MaxInt64)
	const number = "\x40\x7f\xff\xff\xff\xff\xff\xff\xff"
	for _, c := range []struct{ text, low, high string }{{"p = TRUE", number + "\x21", number + "\x21\x00"}, {"FALSE = p", number + "\x20", number + "\x20\x00"}, {"p > FALSE", number + "\x21", "\x40\x80"}, {"p", number, "\x40\x80"}, {"p = TRUE AND q = 1", number + "\x21", number + "\x21\x00"}, {"p <= TRUE", number, number + "\x22"}} {
		low, high, code := plan.Bounds(v, expr(t, c.text))
		want(t, "P16.7: Bounds("+c.text+")", fmt.Sprintf("%q %q %d", low, high, code), fmt.Sprintf("%q %q %d", c.low, c.high, api.OK))
	}
}

// plainClaim is what a part says: the column, the sign, the value.
type plainClaim struct {
	name, sign string
	value      api.Value
}

// plainValueOf tells a plain value.
func plainValueOf(n plainNode) (api.Value, bool) {
	switch {
	case n.Op == api.ExInt:
		return in(n.Num), true
	case n.Op == api.ExText:
		return tx(n.Text), true
	case n.Op == api.ExTrue, n.Op == api.ExFalse:
		return bo(n.Op == api.ExTrue), true
	case n.Op == api.ExNeg && n.of[0].Op == api.ExInt:
		return in(-n.of[0].Num), true
	}
	return null, false
}

// plainClaims tells what the parts of a condition say.
func plainClaims(n plainNode) []plainClaim {
	signs := map[int]string{api.ExEq: "=", api.ExLt: "<", api.ExLe: "<=", api.ExGt: ">", api.ExGe: ">="}
	turned := map[string]string{"=": "=", "<": ">", "<=": ">=", ">": "<", ">=": "<="}
	if n.Op == api.ExAnd {
		return append(plainClaims(n.of[0]), plainClaims(n.of[1])...)
	}
	if n.Op == api.ExBetween && n.of[0].Op == api.ExCol {
		u, plain1 := plainValueOf(n.of[1])
		v, plain2 := plainValueOf(n.of[2])
		if plain1 && plain2 {
			return []plainClaim{{n.of[0].Text, ">=", u}, {n.of[0].Text, "<=", v}}
		}
	}
	sign := signs[n.Op]
	if sign == "" {
		return nil
	}
	if v, plain := plainValueOf(n.of[1]); plain && n.of[0].Op == api.ExCol {
		return []plainClaim{{n.of[0].Text, sign, v}}
	}
	if v, plain := plainValueOf(n.of[0]); plain && n.of[1].Op == api.ExCol {
		return []plainClaim{{n.of[1].Text, turned[sign], v}}
	}
	return nil
}

// plainBounds tells the range of keys by the chapter's lines.
func plainBounds(u api.Table, where api.Expr) (low, high string) {
	key := func(values ...api.Value) string {
		key, _ := bits.Key(values...)
		return key
	}
	after := func(key string) string {
		after, _ := bits.After(key)
		return after
	}
	var claims []plainClaim
	if len(where) > 0 {
		tree, _ := plainTree(where)
		claims = plainClaims(tree)
	}
	values := row(in(u.Number))
next:
	for _, place := range u.Key {
		name := u.Cols[place].Name
		for _, c := range claims {
			if c.name == name && c.sign == "=" {
				values = append(values, c.value)
				continue next
			}
		}
		// Of those from below the last one counts, if they stand in their order, the strict ones behind; of those from above the first.
		var below, above []plainClaim
		for _, c := range claims {
			if c.name == name && (c.sign == ">" || c.sign == ">=") {
				below = append(below, c)
			}
			if c.name == name && (c.sign == "<" || c.sign == "<=") {
				above = append(above, c)
			}
		}
		order := func(a, b plainClaim) int {
			if o := plainOrder(a.value, b.value); o != 0 {
				return o
			}
			return -strings.Compare(a.sign, b.sign) * map[bool]int{true: 1, false: -1}[a.sign[0] == '>']
		}
		slices.SortFunc(below, order)
		slices.SortFunc(above, order)
		low, high = key(values...), after(key(values...))
		if len(below) > 0 {
			c := below[len(below)-1]
			low = key(append(slices.Clone(values), c.value)...)
			if c.sign == ">" {
				low = after(low)
			}
		}
		if len(above) > 0 {
			c := above[0]
			high = key(append(slices.Clone(values), c.value)...)
			if c.sign == "<=" {
				high = after(high)
			}
		}
		return low, high
	}
	return key(values...), key(values...) + "\x00"
}

// part makes a part of a condition on a table, mostly one that says something of a column of its key.
func (m *maker) part(u api.Table) api.Expr {
	if m.one(8) {
		return m.test(u.Cols, m.Intn(3))
	}
	c := u.Cols[pick(m, u.Key...)]
	if m.one(6) {
		c = pick(m, u.Cols...)
	}
	value := func() api.Expr { return written(m.value(c.Type)) }
	name := named(c.Name)
	switch m.Intn(8) {
	case 0:
		return over(op(api.ExBetween), name, value(), value())
	case 1:
		return over(op(pick(m, api.ExEq, api.ExNe)), value(), name)
	case 2, 3, 4:
		return over(op(api.ExEq), name, value())
	case 5:
		return over(op(api.ExEq+m.Intn(6)), value(), name)
	}
	return over(op(api.ExEq+m.Intn(6)), name, value())
}

// where makes a condition of parts, nested anyhow.
func (m *maker) where(u api.Table, parts int) api.Expr {
	if parts <= 1 {
		return m.part(u)
	}
	left := 1 + m.Intn(parts-1)
	return over(op(pick(m, api.ExAnd, api.ExAnd, api.ExAnd, api.ExAnd, api.ExAnd, api.ExAnd, api.ExAnd, api.ExOr)), m.where(u, left), m.where(u, parts-left))
}

// P16.7: conditions of any kind, against the chapter's lines written down a second time; and no row at which one is TRUE lies outside.
func TestBoundsOfMadeUp(t *testing.T) {
	var codes met
	var counts [5]met // points, ranges, empty ranges, rows inside, rows that meet the condition
	inBatches(t, 40000, func(m *maker) string {
		u := m.table()
		e := m.where(u, 1+m.Intn(pick(m, 3, 6, 12)))
		low, high, code := plan.Bounds(u, e)
		codes[code].Add(1)
		text, _ := tongue.PrintExpr(e)
		right := api.OK
		if kind, c := plainType(e, u.Cols); c != api.OK {
			right = c
		} else if kind != api.KBool && kind != api.KNull {
			right = api.ErrType
		}
		if code != right {
			return fmt.Sprintf("P16.7: Bounds(%+v, %s): %d, want %d", u, text, code, right)
		}
		if code != api.OK {
			return ""
		}
		if l, h := plainBounds(u, e); l != low || h != high {
			return fmt.Sprintf("P16.7: Bounds(%+v, %s) = %q, %q, want %q, %q", u, text, low, high, l, h)
		}
		switch {
		case high == low+"\x00":
			counts[0][0].Add(1)
		case low < high:
			counts[1][0].Add(1)
		default:
			counts[2][0].Add(1)
		}
		for range 6 {
			values := m.goodRow(u)
			for _, c := range plainClaimsOf(e) { // rows that meet what is said, more often than not
				if place, col, there := plainColumn(c.name, u.Cols); there && c.value.Kind == col.Type && !m.one(8) {
					values[place] = c.value
				}
			}
			p, code := plan.RowPair(u, values)
			if code != api.OK {
				continue
			}
			inside := low <= p.Key && p.Key < high
			v, _ := plainEval(e, u.Cols, values)
			if inside {
				counts[3][0].Add(1)
			}
			if v != bo(true) {
				continue
			}
			counts[4][0].Add(1)
			if !inside {
				return fmt.Sprintf("P16.7: Bounds(%+v, %s) = %q, %q: %v has the key %q", u, text, low, high, values, p.Key)
			}
		}
		return ""
	})
	codes.atLeast(t, 30, api.OK, api.ErrType, api.ErrColumn)
	for i := range counts {
		counts[i].atLeast(t, 1000, 0)
	}
}

func plainClaimsOf(e api.Expr) []plainClaim {
	tree, _ := plainTree(e)
	return plainClaims(tree)
}

// P16.7: keys of one to MaxKeyCols columns, all equal but the last ones.
func TestBoundsOfEveryKey(t *testing.T) {
	for n := 1; n <= api.MaxKeyCols; n++ {
		u := wideTable(16, n)
		for equal := range n + 1 {
			e := named("c15")
			e = over(op(api.ExIsNull), e)
			values := row(in(1))
			for i := range equal {
				e = over(op(api.ExAnd), over(op(api.ExEq), named(fmt.Sprint("c", i)), written(in(int64(i)))), e)
				values = append(values, in(int64(i)))
			}
			low, high, code := plan.Bounds(u, e)
			key, _ := bits.Key(values...)
			after, _ := bits.After(key)
			if equal == n {
				after = key + "\x00"
			}
			want(t, fmt.Sprintf("P16.7: %d of %d columns", equal, n), fmt.Sprintf("%q %q %d", low, high, code), fmt.Sprintf("%q %q %d", key, after, api.OK))
			if equal == n {
				continue
			}
			e = over(op(api.ExAnd), e, over(op(api.ExGt), named(fmt.Sprint("c", equal)), written(in(-3))))
			more, _ := bits.Key(append(values, in(-2))...) // behind all keys with -3
			low, high, code = plan.Bounds(u, e)
			want(t, fmt.Sprintf("P16.7: %d of %d columns, and more", equal, n), fmt.Sprintf("%q %q %d", low, high, code), fmt.Sprintf("%q %q %d", more, after, api.OK))
		}
	}
	long := written(tx(many(api.MaxText, "\x00")))
	u := api.Table{Name: "t", Number: 1, Cols: []api.ColDef{col("a", api.KText, true)}, Key: []int{0}}
	low, high, code := plan.Bounds(u, over(op(api.ExEq), named("a"), long))
	want(t, "P16.7: a key of more than MaxKey bytes", list(len(low), high == low+"\x00", code), list(2+1+2*api.MaxText+2, true, api.OK))
	const n = 100000
	chain, last := over(op(api.ExGe), named("a"), written(tx("x"))), over(op(api.ExLt), named("a"), written(tx("y")))
	for range n {
		chain = append(append(chain, last...), api.Node{Op: api.ExAnd, N: 2})
	}
	low, high, code = plan.Bounds(u, chain)
	want(t, "P16.7: a long chain", fmt.Sprintf("%q %q %d", low, high, code), fmt.Sprintf("%q %q %d", "\x39\x01\x50x\x00\x01", "\x39\x01\x50y\x00\x01", api.OK))
}
