package plan

import (
	"slices"

	"strata/api"
	"strata/tongue"
)

// node is what is made of one node of an expression, ahead of its use.
type node interface {
	kind() api.Kind
	at(row []api.Value) api.Value // gives up with the number of an error
}

// meaning tells the value of a node at a row: a closure over the meanings of its operands.
type meaning func(row []api.Value) api.Value

// sense is what each node has.
type sense struct {
	of    api.Kind
	means meaning
}

func (s sense) kind() api.Kind { return s.of }

func (s sense) at(row []api.Value) api.Value { return s.means(row) }

type (
	// literal is a value that is written out.
	literal struct {
		sense
		value api.Value
	}
	// negative is the minus of an integer that is written out.
	negative struct {
		sense
		value api.Value
	}
	column struct {
		sense
		name string
	}
	// infix is an operation of two operands. What leans to the left is evaluated by a loop, so that its length costs no depth.
	infix struct {
		sense
		op          int
		left, right node
		first       meaning
		links       []link
	}
	between struct {
		sense
		what, low, high node
	}
	// other is whatever says nothing of the keys that a condition leaves.
	other struct{ sense }
)

// link is an operation of a chain that leans to the left: what stands ahead of it is its left operand.
type link struct {
	join  join
	right meaning
}

func isExpr(e api.Expr) bool {
	_, code := tongue.PrintExpr(e)
	return code == api.OK
}

// treeOf makes the tree of what may be an expression over columns.
func treeOf(e api.Expr, cols []api.ColDef) (node, error) {
	if !isExpr(e) {
		return nil, fault{api.ErrTree}
	}
	return grownOf(e, cols)
}

// grownOf makes the tree of an expression; the first node whose operands do not fit is told (P16.4).
func grownOf(e api.Expr, cols []api.ColDef) (node, error) {
	var stack []node
	for _, n := range e {
		rest := len(stack) - n.N
		grown, err := grow(n, slices.Clone(stack[rest:]), cols)
		if err != nil {
			return nil, err
		}
		stack = append(stack[:rest], grown)
	}
	return stack[0], nil
}

// condition makes the tree of a WHERE; nil: there is none.
func condition(where api.Expr, cols []api.ColDef) (node, error) {
	if len(where) == 0 {
		return nil, nil
	}
	return typed(where, cols, api.KBool)
}

// typed makes the tree of an expression whose kind has to fit.
func typed(e api.Expr, cols []api.ColDef, kind api.Kind) (node, error) {
	tree, err := grownOf(e, cols)
	if err != nil {
		return nil, err
	}
	if !fits(tree.kind(), kind) {
		return nil, fault{api.ErrType}
	}
	return tree, nil
}

// grow makes a node over its operands, which it keeps.
func grow(n api.Node, of []node, cols []api.ColDef) (node, error) {
	if n.Op == api.ExCol {
		return columnOf(n.Text, cols)
	}
	kinds := make([]api.Kind, len(of))
	for i, operand := range of {
		kinds[i] = operand.kind()
	}
	kind, good := kindOf(n, kinds)
	if !good {
		return nil, fault{api.ErrType}
	}
	switch n.Op {
	case api.ExInt, api.ExText, api.ExNull, api.ExTrue, api.ExFalse:
		value := literalValue(n)
		return literal{sense{kind, constant(value)}, value}, nil
	case api.ExNeg:
		return minusOf(kind, of[0]), nil
	case api.ExBetween:
		return between{sense{kind, meaningOf(n, of)}, of[0], of[1], of[2]}, nil
	}
	if j := joinOf(n.Op); j != nil {
		return infixOf(n.Op, kind, j, of[0], of[1]), nil
	}
	return other{sense{kind, meaningOf(n, of)}}, nil
}

func columnOf(name string, cols []api.ColDef) (node, error) {
	place := placeOf(name, cols)
	if place < 0 {
		return nil, fault{api.ErrColumn}
	}
	kind := cols[place].Type
	if !isType(kind) {
		return nil, fault{api.ErrType}
	}
	return column{sense{kind, func(row []api.Value) api.Value { return row[place] }}, name}, nil
}

func literalValue(n api.Node) api.Value {
	switch n.Op {
	case api.ExInt:
		return intValue(n.Num)
	case api.ExText:
		return textValue(n.Text)
	case api.ExTrue, api.ExFalse:
		return truth(n.Op == api.ExTrue)
	}
	return api.Value{}
}

func minusOf(kind api.Kind, of node) node {
	if written, is := of.(literal); is && !isNull(written.value) {
		value := intValue(-written.value.Int)
		return negative{sense{kind, constant(value)}, value}
	}
	return other{sense{kind, strict([]node{of}, minus)}}
}

// infixOf takes the chain of its left operand over; nothing else keeps that one.
func infixOf(op int, kind api.Kind, j join, left, right node) node {
	x := infix{op: op, left: left, right: right, first: left.at}
	if chain, leans := left.(infix); leans {
		x.first, x.links = chain.first, chain.links
	}
	x.links = append(x.links, link{j, right.at})
	first, links := x.first, x.links
	x.sense = sense{kind, func(row []api.Value) api.Value {
		value := first(row)
		for _, l := range links {
			value = l.join(value, l.right, row)
		}
		return value
	}}
	return x
}
