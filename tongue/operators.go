package tongue

import "strata/api"

// The levels of expressions: how tightly they hold together (P15.9).
const (
	levelOr = iota + 1
	levelAnd
	levelNot
	levelTest
	levelCat
	levelSum
	levelProduct
	levelMinus
	levelPrimary
	levelAny = levelOr // of a place that takes any expression
)

// operator is one that stands between two operands, or ahead of one.
type operator struct {
	text        string
	op          int
	level       int // of what it makes
	left, right int // which levels its operands' places ask for; 0 on the left: none stands there
}

var operators = [...]operator{
	{"OR", api.ExOr, levelOr, levelOr, levelAnd},
	{"AND", api.ExAnd, levelAnd, levelAnd, levelNot},
	{"NOT", api.ExNot, levelNot, 0, levelNot},
	{"=", api.ExEq, levelTest, levelCat, levelCat},
	{"<>", api.ExNe, levelTest, levelCat, levelCat},
	{"<", api.ExLt, levelTest, levelCat, levelCat},
	{"<=", api.ExLe, levelTest, levelCat, levelCat},
	{">", api.ExGt, levelTest, levelCat, levelCat},
	{">=", api.ExGe, levelTest, levelCat, levelCat},
	{"LIKE", api.ExLike, levelTest, levelCat, levelCat},
	{"||", api.ExCat, levelCat, levelCat, levelSum},
	{"+", api.ExAdd, levelSum, levelSum, levelProduct},
	{"-", api.ExSub, levelSum, levelSum, levelProduct},
	{"*", api.ExMul, levelProduct, levelProduct, levelMinus},
	{"/", api.ExDiv, levelProduct, levelProduct, levelMinus},
	{"%", api.ExMod, levelProduct, levelProduct, levelMinus},
	{"-", api.ExNeg, levelMinus, 0, levelMinus},
}

// operatorOf finds the operator that makes an operation.
func operatorOf(op int) (operator, bool) {
	for _, o := range operators {
		if o.op == op {
			return o, true
		}
	}
	return operator{}, false
}

// span is from least to most.
type span struct{ least, most int }

func (s span) holds(n int) bool { return n >= s.least && n <= s.most }

// operands are how many each operation takes; a function's are its own (P15.4).
var operands = [...]span{
	api.ExNeg: {1, 1}, api.ExNot: {1, 1}, api.ExIsNull: {1, 1}, api.ExNotNull: {1, 1},
	api.ExAdd: {2, 2}, api.ExSub: {2, 2}, api.ExMul: {2, 2}, api.ExDiv: {2, 2}, api.ExMod: {2, 2}, api.ExCat: {2, 2},
	api.ExEq: {2, 2}, api.ExNe: {2, 2}, api.ExLt: {2, 2}, api.ExLe: {2, 2}, api.ExGt: {2, 2}, api.ExGe: {2, 2},
	api.ExAnd: {2, 2}, api.ExOr: {2, 2}, api.ExLike: {2, 2}, api.ExBetween: {3, 3},
	api.ExIn: {2, api.MaxList + 1}, api.ExCase: {3, 2*api.MaxList + 1},
}

// function has a name and a number of arguments (P15.5).
type function struct {
	name      string
	arguments span
}

var functions = [...]function{
	{"abs", span{1, 1}}, {"length", span{1, 1}}, {"lower", span{1, 1}}, {"upper", span{1, 1}},
	{"nullif", span{2, 2}}, {"substr", span{3, 3}},
	{"coalesce", span{1, api.MaxList}}, {"least", span{1, api.MaxList}}, {"greatest", span{1, api.MaxList}},
}

// functionOf finds a function by its name.
func functionOf(name string) (function, bool) {
	for _, f := range functions {
		if f.name == name {
			return f, true
		}
	}
	return function{}, false
}
