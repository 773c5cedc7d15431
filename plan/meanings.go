package plan

import (
	"strata/api"
	"strata/bits"
)

// join tells the value of an operation from its left operand's, and from its right operand, where that one is asked for.
type join func(left api.Value, right meaning, row []api.Value) api.Value

// joinOf tells the join of an operation of two operands; nil: it is none.
func joinOf(op int) join {
	switch op {
	case api.ExAnd:
		return andJoin
	case api.ExOr:
		return orJoin
	case api.ExAdd:
		return strictJoin(add)
	case api.ExSub:
		return strictJoin(subtract)
	case api.ExMul:
		return strictJoin(multiply)
	case api.ExDiv:
		return strictJoin(divide)
	case api.ExMod:
		return strictJoin(remainder)
	case api.ExCat:
		return strictJoin(concatenate)
	case api.ExLike:
		return strictJoin(like)
	case api.ExEq, api.ExNe, api.ExLt, api.ExLe, api.ExGt, api.ExGe:
		return strictJoin(func(a, b api.Value) api.Value { return compared(op, a, b) })
	}
	return nil
}

func andJoin(left api.Value, right meaning, row []api.Value) api.Value {
	if left == truth(false) {
		return left
	}
	return and(left, right(row))
}

func orJoin(left api.Value, right meaning, row []api.Value) api.Value {
	if left == truth(true) {
		return left
	}
	return or(left, right(row))
}

// strictJoin asks for both operands; where one is null the answer is.
func strictJoin(work func(a, b api.Value) api.Value) join {
	return func(left api.Value, right meaning, row []api.Value) api.Value {
		b := right(row)
		if isNull(left) || isNull(b) {
			return api.Value{}
		}
		return work(left, b)
	}
}

func constant(value api.Value) meaning { return func([]api.Value) api.Value { return value } }

// all asks for all operands, from left to right.
func all(of []node, row []api.Value) []api.Value {
	values := make([]api.Value, len(of))
	for i, operand := range of {
		values[i] = operand.at(row)
	}
	return values
}

// strict asks for all operands; where one is null the answer is.
func strict(of []node, work func(values []api.Value) api.Value) meaning {
	return func(row []api.Value) api.Value {
		values := all(of, row)
		for _, v := range values {
			if isNull(v) {
				return v
			}
		}
		return work(values)
	}
}

// meaningOf tells the meaning of a node that is neither a leaf nor an operation of two operands.
func meaningOf(n api.Node, of []node) meaning {
	switch n.Op {
	case api.ExNot:
		return func(row []api.Value) api.Value { return not(of[0].at(row)) }
	case api.ExIsNull, api.ExNotNull:
		return func(row []api.Value) api.Value { return truth(isNull(of[0].at(row)) == (n.Op == api.ExIsNull)) }
	case api.ExBetween:
		return betweenOf(of)
	case api.ExIn:
		return memberOf(of)
	case api.ExCase:
		return choiceOf(of)
	}
	return callOf(n.Text, of)
}

func betweenOf(of []node) meaning {
	return func(row []api.Value) api.Value {
		v := all(of, row)
		return and(compared(api.ExGe, v[0], v[1]), compared(api.ExLe, v[0], v[2]))
	}
}

// memberOf asks for the entries one by one, up to one that is equal.
func memberOf(of []node) meaning {
	return func(row []api.Value) api.Value {
		what := of[0].at(row)
		answer := truth(false)
		for _, entry := range of[1:] {
			switch compared(api.ExEq, what, entry.at(row)) {
			case truth(true):
				return truth(true)
			case api.Value{}:
				answer = api.Value{}
			}
		}
		return answer
	}
}

// choiceOf asks for the WHENs one by one, up to one that is TRUE.
func choiceOf(of []node) meaning {
	last := len(of) - 1
	return func(row []api.Value) api.Value {
		for i := 0; i < last; i += 2 {
			if of[i].at(row) == truth(true) {
				return of[i+1].at(row)
			}
		}
		return of[last].at(row)
	}
}

func callOf(name string, of []node) meaning {
	switch name {
	case "abs":
		return strict(of, absolute)
	case "length":
		return strict(of, length)
	case "lower":
		return strict(of, lower)
	case "upper":
		return strict(of, upper)
	case "substr":
		return strict(of, part)
	case "nullif":
		return nullifOf(of)
	case "coalesce":
		return coalesceOf(of)
	case "least":
		return extremeOf(of, -1)
	}
	return extremeOf(of, 1)
}

func nullifOf(of []node) meaning {
	return func(row []api.Value) api.Value {
		v := all(of, row)
		if v[0] == v[1] {
			return api.Value{}
		}
		return v[0]
	}
}

// coalesceOf asks for the operands one by one, up to one that is not null.
func coalesceOf(of []node) meaning {
	return func(row []api.Value) api.Value {
		for _, operand := range of {
			if v := operand.at(row); !isNull(v) {
				return v
			}
		}
		return api.Value{}
	}
}

// extremeOf tells the greatest operand, or the least one, if sign is -1.
func extremeOf(of []node, sign int) meaning {
	return func(row []api.Value) api.Value {
		var best api.Value
		for _, v := range all(of, row) {
			best = better(best, v, sign)
		}
		return best
	}
}

// better tells the greater one of two values, or the less one, if sign is -1; one that is not null, if there is one.
func better(a, b api.Value, sign int) api.Value {
	switch {
	case isNull(b):
		return a
	case isNull(a) || sign*bits.CompareValues(b, a) > 0:
		return b
	}
	return a
}
