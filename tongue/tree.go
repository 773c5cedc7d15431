package tongue

import (
	"strconv"
	"strings"

	"strata/api"
)

// node is one of the tree that an expression is printed from.
type node interface {
	level() int // how tightly its print holds together (P15.9)
	nests() int // how many nestings its print has open at a time
}

// rank is what each node knows of itself.
type rank struct{ height, open int }

func (r rank) level() int { return r.height }

func (r rank) nests() int { return r.open }

type (
	// leaf has no operands: its print is made.
	leaf struct {
		rank
		text string
	}
	// brackets stand round an operand whose place asks for more than its level.
	brackets struct {
		rank
		of node
	}
	prefix struct {
		rank
		sign operator
		of   node
	}
	infix struct {
		rank
		sign        operator
		denied      bool
		left, right node
	}
	nullness struct {
		rank
		denied bool
		of     node
	}
	between struct {
		rank
		denied        bool
		of, low, high node
	}
	member struct {
		rank
		denied bool
		of     node
		list   []node
	}
	choice struct {
		rank
		parts []node
	}
	call struct {
		rank
		name      string
		arguments []node
	}
)

// treeOf makes the tree of an expression, if it is one (P15.7).
func treeOf(e api.Expr) (node, bool) {
	var stack []node
	for _, n := range e {
		if !isNode(n) || n.N > len(stack) {
			return nil, false
		}
		rest := len(stack) - n.N
		grown := grow(n, stack[rest:])
		stack = append(stack[:rest], grown)
	}
	if len(stack) != 1 || stack[0].nests() > api.MaxDepth {
		return nil, false
	}
	return stack[0], true
}

// isNode tells whether a node has what its operation asks for, its operands left aside.
func isNode(n api.Node) bool {
	if n.Op < api.ExInt || n.Op > api.ExCall || n.Num < 0 || n.Num > 0 && n.Op != api.ExInt {
		return false
	}
	switch n.Op {
	case api.ExCall:
		f, found := functionOf(n.Text)
		return found && f.arguments.holds(n.N)
	case api.ExCol:
		return isName(n.Text) && n.N == 0
	case api.ExText:
		return len(n.Text) <= api.MaxText && n.N == 0
	case api.ExCase: // its parts are pairs, and the ELSE
		return n.Text == "" && operands[n.Op].holds(n.N) && n.N%2 == 1
	}
	return n.Text == "" && operands[n.Op].holds(n.N)
}

// grow makes a node over its operands, which it does not keep as a list.
func grow(n api.Node, of []node) node {
	if o, found := operatorOf(n.Op); found {
		return operated(o, of)
	}
	switch n.Op {
	case api.ExIsNull, api.ExNotNull:
		a := asked(levelCat, of...)
		return nullness{rankOf(levelTest, a...), n.Op == api.ExNotNull, a[0]}
	case api.ExBetween:
		a := asked(levelCat, of...)
		return between{rankOf(levelTest, a...), false, a[0], a[1], a[2]}
	case api.ExIn:
		a, list := asked(levelCat, of[0]), asked(levelAny, of[1:]...)
		open := max(deepest(a...), 1+deepest(list...))
		return member{rank{levelTest, open}, false, a[0], list}
	case api.ExCase:
		parts := asked(levelAny, of...)
		return choice{rank{levelPrimary, 1 + deepest(parts...)}, parts}
	case api.ExCall:
		arguments := asked(levelAny, of...)
		return call{rank{levelPrimary, 1 + deepest(arguments...)}, n.Text, arguments}
	}
	return leaf{rank{levelPrimary, 0}, leafText(n)}
}

// operated makes the node of an operator.
func operated(o operator, of []node) node {
	if o.left > 0 {
		left, right := ask(o.left, of[0]), ask(o.right, of[1])
		return infix{rankOf(o.level, left, right), o, false, left, right}
	}
	if o.op == api.ExNot {
		if test, can := deny(of[0]); can {
			return test
		}
	}
	operand := ask(o.right, of[0])
	return prefix{rank{o.level, 1 + operand.nests()}, o, operand}
}

// deny puts the NOT of a test into it, where the grammar has a place for it.
func deny(test node) (node, bool) {
	switch x := test.(type) {
	case between:
		can := !x.denied
		x.denied = true
		return x, can
	case member:
		can := !x.denied
		x.denied = true
		return x, can
	case infix:
		can := x.sign.op == api.ExLike && !x.denied
		x.denied = true
		return x, can
	}
	return nil, false
}

// ask puts an operand into a place that asks for a level.
func ask(level int, n node) node {
	if n.level() < level {
		return brackets{rank{levelPrimary, 1 + n.nests()}, n}
	}
	return n
}

// asked does so with several, into a new list.
func asked(level int, of ...node) []node {
	list := make([]node, len(of))
	for i, n := range of {
		list[i] = ask(level, n)
	}
	return list
}

// rankOf is the rank of a node that opens no nesting of its own.
func rankOf(level int, of ...node) rank { return rank{level, deepest(of...)} }

// deepest is the most nestings that one of them has open.
func deepest(of ...node) int {
	most := 0
	for _, n := range of {
		most = max(most, n.nests())
	}
	return most
}

func leafText(n api.Node) string {
	switch n.Op {
	case api.ExInt:
		return strconv.FormatInt(n.Num, 10)
	case api.ExText:
		return inQuotes("'", n.Text)
	case api.ExCol:
		return nameText(n.Text)
	}
	return constantWords[n.Op]
}

func inQuotes(quote, text string) string {
	return quote + strings.ReplaceAll(text, quote, quote+quote) + quote
}

// nameText prints a name; one that would not be read as itself stands in quotes (P15.8).
func nameText(name string) string {
	if isDigit(name[0]) || isKeyword(strings.ToUpper(name)) {
		return inQuotes(`"`, name)
	}
	for _, b := range []byte(name) {
		if !isSmall(b) && !isDigit(b) {
			return inQuotes(`"`, name)
		}
	}
	return name
}
