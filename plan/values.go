package plan

import (
	"math"
	mathbits "math/bits"

	"strata/api"
	"strata/bits"
)

// truth is TRUE or FALSE.
func truth(is bool) api.Value {
	if is {
		return api.Value{Kind: api.KBool, Int: 1}
	}
	return api.Value{Kind: api.KBool}
}

func not(v api.Value) api.Value {
	if isNull(v) {
		return v
	}
	return truth(v == truth(false))
}

// and is the truth table of AND, with null as neither.
func and(a, b api.Value) api.Value {
	switch {
	case a == truth(false) || b == truth(false):
		return truth(false)
	case isNull(a) || isNull(b):
		return api.Value{}
	}
	return truth(true)
}

func or(a, b api.Value) api.Value { return not(and(not(a), not(b))) }

// compared tells whether two values stand as an operation asks; null, where one of them is.
func compared(op int, a, b api.Value) api.Value {
	if isNull(a) || isNull(b) {
		return api.Value{}
	}
	order := bits.CompareValues(a, b)
	switch op {
	case api.ExEq:
		return truth(order == 0)
	case api.ExNe:
		return truth(order != 0)
	case api.ExLt:
		return truth(order < 0)
	case api.ExLe:
		return truth(order <= 0)
	case api.ExGt:
		return truth(order > 0)
	}
	return truth(order >= 0)
}

// exact is a number, unless it has left 64 bits.
func exact(n int64, over bool) api.Value {
	if over {
		panic(api.ErrOver)
	}
	return intValue(n)
}

func minus(v []api.Value) api.Value { return subtract(intValue(0), v[0]) }

func absolute(v []api.Value) api.Value {
	if v[0].Int < 0 {
		return minus(v)
	}
	return v[0]
}

// add: a sum has left 64 bits just if its sign is that of neither one.
func add(a, b api.Value) api.Value {
	sum := a.Int + b.Int
	return exact(sum, (a.Int^sum)&(b.Int^sum) < 0)
}

func subtract(a, b api.Value) api.Value {
	rest := a.Int - b.Int
	return exact(rest, (a.Int^b.Int)&(a.Int^rest) < 0)
}

// multiply looks at the product of the magnitudes: below 0 there is room for one more.
func multiply(a, b api.Value) api.Value {
	below := a.Int < 0 != (b.Int < 0)
	room := uint64(math.MaxInt64)
	if below {
		room++
	}
	high, low := mathbits.Mul64(magnitude(a.Int), magnitude(b.Int))
	return exact(a.Int*b.Int, high > 0 || low > room)
}

func magnitude(n int64) uint64 {
	if n < 0 {
		return -uint64(n)
	}
	return uint64(n)
}

func divide(a, b api.Value) api.Value {
	orDivide(b)
	return exact(a.Int/b.Int, a.Int == math.MinInt64 && b.Int == -1)
}

func remainder(a, b api.Value) api.Value {
	orDivide(b)
	return intValue(a.Int % b.Int)
}

func orDivide(by api.Value) {
	if by.Int == 0 {
		panic(api.ErrDivide)
	}
}
