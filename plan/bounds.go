package plan

import (
	"slices"

	"strata/api"
	"strata/bits"
)

// claim is what a part of a condition says of a column: how it stands to a value.
type claim struct {
	column string
	op     int
	value  api.Value
}

// boundsOf tells the range of keys outside of which no row meets a condition; nil is none (P16.7).
func boundsOf(t api.Table, where node) (low, high string) {
	claims := claimsOf(where)
	list := []api.Value{intValue(t.Number)}
	for _, place := range t.Key {
		name := t.Cols[place].Name
		first := slices.IndexFunc(claims, func(c claim) bool { return c.column == name && c.op == api.ExEq })
		if first < 0 {
			return lowOf(list, name, claims), highOf(list, name, claims)
		}
		list = append(list, claims[first].value)
	}
	low = keyOf(list...)
	return low, low + "\x00"
}

func lowOf(list []api.Value, name string, claims []claim) string {
	if c, found := tightest(claims, name, api.ExGt, api.ExGe, 1); found {
		return edge(list, c, api.ExGt)
	}
	return keyOf(list...)
}

func highOf(list []api.Value, name string, claims []claim) string {
	if c, found := tightest(claims, name, api.ExLt, api.ExLe, -1); found {
		return edge(list, c, api.ExLe)
	}
	return afterOf(keyOf(list...))
}

// edge is the key at which a range begins or ends by a claim: behind all keys with its value, if it says so.
func edge(list []api.Value, c claim, behind int) string {
	key := keyOf(append(slices.Clone(list), c.value)...)
	if c.op == behind {
		return afterOf(key)
	}
	return key
}

// tightest tells, of the claims with one of two operations on a column, that with the greatest value (the least one, if sign is -1), and of two with the same the strict one.
func tightest(claims []claim, name string, strict, loose, sign int) (best claim, found bool) {
	for _, c := range claims {
		if c.column != name || c.op != strict && c.op != loose {
			continue
		}
		order := sign * bits.CompareValues(c.value, best.value)
		if !found || order > 0 || order == 0 && c.op == strict {
			best, found = c, true
		}
	}
	return best, found
}

// claimsOf tells what the parts of a condition say, from left to right.
func claimsOf(where node) []claim {
	var claims []claim
	for _, part := range partsOf(where) {
		switch x := part.(type) {
		case infix:
			claims = append(claims, comparison(x)...)
		case between:
			low, high := infix{op: api.ExGe, left: x.what, right: x.low}, infix{op: api.ExLe, left: x.what, right: x.high}
			if both := append(sided(low), sided(high)...); len(both) == 2 {
				claims = append(claims, both...)
			}
		}
	}
	return claims
}

// partsOf takes a condition apart at its ANDs, by a loop: they may lean to the left as deeply as the list is long.
func partsOf(where node) []node {
	var parts []node
	for left := []node{where}; len(left) > 0; {
		last := len(left) - 1
		part := left[last]
		left = left[:last]
		if x, is := part.(infix); is && x.op == api.ExAnd {
			left = append(left, x.right, x.left)
			continue
		}
		parts = append(parts, part)
	}
	return parts
}

// comparison tells what a comparison says of a column on either side.
func comparison(x infix) []claim {
	turned := infix{op: mirrored(x.op), left: x.right, right: x.left}
	return append(sided(x), sided(turned)...)
}

// mirrored is an operation with its operands changed about.
func mirrored(op int) int {
	switch op {
	case api.ExLt:
		return api.ExGt
	case api.ExLe:
		return api.ExGe
	case api.ExGt:
		return api.ExLt
	case api.ExGe:
		return api.ExLe
	}
	return op
}

// sided tells what an operation says of a column on its left, against a plain value; of others than =, <, <=, > and >= nothing is asked.
func sided(x infix) []claim {
	c, is := x.left.(column)
	value, plain := plainValue(x.right)
	if !is || !plain {
		return nil
	}
	return []claim{{c.name, x.op, value}}
}

// plainValue tells a value that is written out.
func plainValue(n node) (api.Value, bool) {
	switch x := n.(type) {
	case literal:
		return x.value, !isNull(x.value)
	case negative:
		return x.value, true
	}
	return api.Value{}, false
}
