package plan_test

import (
	"math/big"
	"regexp"
	"slices"
	"strings"
	"unicode/utf8"

	"strata/api"
	"strata/tongue"
)

// plain_test.go: what chapter 16 says of expressions, written down plainly a second time.

// letters are the kinds, one letter each: null, bool, int, text.
const letters = "nbit"

// kindRules are the chapter's table of kinds: what the operands' letters have to be, and the letter of the whole; * is that of the operands.
var kindRules = []struct {
	ops   string
	shape *regexp.Regexp
	gives string
}{
	{"int", regexp.MustCompile(`^$`), "i"}, {"text", regexp.MustCompile(`^$`), "t"}, {"null", regexp.MustCompile(`^$`), "n"}, {"true false", regexp.MustCompile(`^$`), "b"},
	{"neg", regexp.MustCompile(`^[in]$`), "i"}, {"add sub mul div mod", regexp.MustCompile(`^[in][in]$`), "i"},
	{"not", regexp.MustCompile(`^[bn]$`), "b"}, {"and or", regexp.MustCompile(`^[bn][bn]$`), "b"},
	{"isnull notnull", regexp.MustCompile(`^.$`), "b"}, {"cat", regexp.MustCompile(`^[tn][tn]$`), "t"},
	{"eq ne lt le gt ge", regexp.MustCompile(`^([bn][bn]|[in][in]|[tn][tn])$`), "b"}, {"like", regexp.MustCompile(`^[tn][tn]$`), "b"},
	{"between in", regexp.MustCompile(`^([bn]+|[in]+|[tn]+)$`), "b"},
	{"case", regexp.MustCompile(`^(([bn][bn])+[bn]|([bn][in])+[in]|([bn][tn])+[tn])$`), "*"},
	{"abs", regexp.MustCompile(`^[in]$`), "i"}, {"length", regexp.MustCompile(`^[tn]$`), "i"}, {"lower upper", regexp.MustCompile(`^[tn]$`), "t"},
	{"substr", regexp.MustCompile(`^[tn][in][in]$`), "t"}, {"nullif coalesce least greatest", regexp.MustCompile(`^([bn]+|[in]+|[tn]+)$`), "*"},
}

// opWords names the operations, by their numbers.
var opWords = strings.Fields("- int text null true false col neg not isnull notnull add sub mul div mod cat eq ne lt le gt ge and or like between in case")

func opWord(n api.Node) string {
	if n.Op == api.ExCall {
		return n.Text
	}
	return opWords[n.Op]
}

// plainKindOf tells a node's letter by those of its operands; "" is ErrType.
func plainKindOf(n api.Node, of string) string {
	word := opWord(n)
	for _, r := range kindRules {
		if !slices.Contains(strings.Fields(r.ops), word) {
			continue
		}
		if !r.shape.MatchString(of) {
			return ""
		}
		if r.gives != "*" {
			return r.gives
		}
		answers := of
		if word == "case" {
			answers = of[len(of)-1:]
			for i := 1; i < len(of); i += 2 {
				answers += of[i : i+1]
			}
		}
		return (strings.Trim(answers, "n") + "n")[:1]
	}
	panic(word)
}

// plainType tells the kind of an expression (P16.4).
func plainType(e api.Expr, cols []api.ColDef) (api.Kind, api.Errno) {
	if _, code := tongue.PrintExpr(e); code != api.OK {
		return 0, api.ErrTree
	}
	stack := ""
	for _, n := range e {
		of := stack[len(stack)-n.N:]
		stack = stack[:len(stack)-n.N]
		if n.Op != api.ExCol {
			letter := plainKindOf(n, of)
			if letter == "" {
				return 0, api.ErrType
			}
			stack += letter
			continue
		}
		place, _, there := plainColumn(n.Text, cols)
		if !there {
			return 0, api.ErrColumn
		}
		if kind := cols[place].Type; kind < 1 || kind > 3 {
			return 0, api.ErrType
		}
		stack += letters[cols[place].Type : cols[place].Type+1]
	}
	return api.Kind(strings.Index(letters, stack)), api.OK
}

func plainColumn(name string, cols []api.ColDef) (int, api.ColDef, bool) {
	for i, c := range cols {
		if c.Name == name {
			return i, c, true
		}
	}
	return 0, api.ColDef{}, false
}

// plainNode is a tree.
type plainNode struct {
	api.Node
	of []plainNode
}

// plainTree makes it from the list's end; the rest of the list stands ahead of it.
func plainTree(e api.Expr) (plainNode, api.Expr) {
	last := len(e) - 1
	n := plainNode{Node: e[last]}
	e = e[:last]
	for range n.N {
		var operand plainNode
		operand, e = plainTree(e)
		n.of = append([]plainNode{operand}, n.of...)
	}
	return n, e
}

// plainEval tells the value of an expression (P16.5).
func plainEval(e api.Expr, cols []api.ColDef, values []api.Value) (api.Value, api.Errno) {
	if _, code := plainType(e, cols); code != api.OK {
		return null, code
	}
	if len(values) != len(cols) {
		return null, api.ErrArity
	}
	for i, v := range values {
		if code := plainValueCode(v); code != api.OK {
			return null, code
		}
		if v.Kind != api.KNull && v.Kind != cols[i].Type {
			return null, api.ErrType
		}
	}
	tree, _ := plainTree(e)
	return tree.eval(cols, values)
}

// plainValueCode tells whether a value is valid, by chapter 1's table.
func plainValueCode(v api.Value) api.Errno {
	switch {
	case v.Kind == api.KNull && v.Int == 0 && v.Text == "", v.Kind == api.KBool && (v.Int == 0 || v.Int == 1) && v.Text == "", v.Kind == api.KInt && v.Text == "", v.Kind == api.KText && v.Int == 0 && len(v.Text) <= 4096:
		return api.OK
	case v.Kind == api.KText && v.Int == 0:
		return api.ErrLong
	}
	return api.ErrValue
}

// eval tells the value of a tree, or the first error that comes up.
func (n plainNode) eval(cols []api.ColDef, values []api.Value) (api.Value, api.Errno) {
	switch n.Op {
	case api.ExInt:
		return in(n.Num), api.OK
	case api.ExText:
		return tx(n.Text), api.OK
	case api.ExNull:
		return null, api.OK
	case api.ExTrue, api.ExFalse:
		return bo(n.Op == api.ExTrue), api.OK
	case api.ExCol:
		place, _, _ := plainColumn(n.Text, cols)
		return values[place], api.OK
	case api.ExAnd, api.ExOr, api.ExIn, api.ExCase:
		return n.lazy(cols, values)
	case api.ExCall:
		if n.Text == "coalesce" {
			return n.lazy(cols, values)
		}
	}
	var of []api.Value
	for _, operand := range n.of {
		v, code := operand.eval(cols, values)
		if code != api.OK {
			return null, code
		}
		of = append(of, v)
	}
	return n.eager(of)
}

// lazy are those that do not ask for all operands.
func (n plainNode) lazy(cols []api.ColDef, values []api.Value) (api.Value, api.Errno) {
	var asked []api.Value
	for i, operand := range n.of {
		if n.Op == api.ExCase && i%2 == 1 && i < len(n.of)-1 && asked[len(asked)-1] != bo(true) {
			continue // a THEN whose WHEN is not TRUE
		}
		v, code := operand.eval(cols, values)
		if code != api.OK {
			return null, code
		}
		asked = append(asked, v)
		switch n.Op {
		case api.ExAnd:
			if v == bo(false) {
				return v, api.OK
			}
		case api.ExOr:
			if v == bo(true) {
				return v, api.OK
			}
		case api.ExIn:
			if i > 0 && v == asked[0] && v != null {
				return bo(true), api.OK
			}
		case api.ExCase:
			if i%2 == 1 || i == len(n.of)-1 {
				return v, api.OK
			}
		case api.ExCall:
			if v != null {
				return v, api.OK
			}
		}
	}
	switch {
	case n.Op == api.ExCall || slices.Contains(asked, null):
		return null, api.OK
	case n.Op == api.ExAnd:
		return bo(true), api.OK
	}
	return bo(false), api.OK
}

// eager are those that ask for all.
func (n plainNode) eager(of []api.Value) (api.Value, api.Errno) {
	word := opWord(n.Node)
	switch word {
	case "isnull":
		return bo(of[0] == null), api.OK
	case "notnull":
		return bo(of[0] != null), api.OK
	case "between":
		return plainBetween(of), api.OK
	case "nullif":
		if of[0] == of[1] {
			return null, api.OK
		}
		return of[0], api.OK
	case "least", "greatest":
		return plainExtreme(word, of), api.OK
	}
	if slices.Contains(of, null) {
		return null, api.OK
	}
	switch of[0].Kind {
	case api.KInt:
		switch word {
		case "neg", "add", "sub", "mul", "div", "mod", "abs":
			return plainNumber(word, of)
		}
	case api.KText:
		switch word {
		case "cat", "like", "length", "lower", "upper", "substr":
			return plainText(word, of)
		}
	case api.KBool:
		if word == "not" {
			return bo(of[0].Int == 0), api.OK
		}
	}
	return bo(plainCompared(word, plainOrder(of[0], of[1]))), api.OK
}

// plainOrder compares two values of one kind.
func plainOrder(a, b api.Value) int {
	switch {
	case a.Kind == api.KText:
		return strings.Compare(a.Text, b.Text)
	case a.Int < b.Int:
		return -1
	case a.Int > b.Int:
		return 1
	}
	return 0
}

func plainCompared(word string, order int) bool {
	return map[string]bool{"eq": order == 0, "ne": order != 0, "lt": order < 0, "le": order <= 0, "gt": order > 0, "ge": order >= 0}[word]
}

// plainBetween is FALSE as soon as one side is known to be wrong, TRUE if both are known to be right.
func plainBetween(of []api.Value) api.Value {
	a, low, high := of[0], of[1], of[2]
	if a != null && (low != null && plainOrder(a, low) < 0 || high != null && plainOrder(a, high) > 0) {
		return bo(false)
	}
	if slices.Contains(of, null) {
		return null
	}
	return bo(true)
}

func plainExtreme(word string, of []api.Value) api.Value {
	sorted := slices.DeleteFunc(slices.Clone(of), func(v api.Value) bool { return v == null })
	if len(sorted) == 0 {
		return null
	}
	slices.SortFunc(sorted, plainOrder)
	if word == "least" {
		return sorted[0]
	}
	return sorted[len(sorted)-1]
}

// plainNumber computes with numbers of any size.
func plainNumber(word string, of []api.Value) (api.Value, api.Errno) {
	a, b := big.NewInt(of[0].Int), new(big.Int)
	if len(of) > 1 {
		b.SetInt64(of[1].Int)
	}
	x := new(big.Int)
	switch word {
	case "neg":
		x.Neg(a)
	case "abs":
		x.Abs(a)
	case "add":
		x.Add(a, b)
	case "sub":
		x.Sub(a, b)
	case "mul":
		x.Mul(a, b)
	default:
		if b.Sign() == 0 {
			return null, api.ErrDivide
		}
		x.Quo(a, b)
		if word == "mod" {
			x.Sub(a, x.Mul(x, b))
		}
	}
	if !x.IsInt64() {
		return null, api.ErrOver
	}
	return in(x.Int64()), api.OK
}

// plainCharacters cuts a text into its characters.
func plainCharacters(text string) []string {
	var list []string
	for len(text) > 0 {
		_, n := utf8.DecodeRuneInString(text)
		list = append(list, text[:n])
		text = text[n:]
	}
	return list
}

func plainText(word string, of []api.Value) (api.Value, api.Errno) {
	text := of[0].Text
	switch word {
	case "cat":
		if len(text)+len(of[1].Text) > 4096 {
			return null, api.ErrLong
		}
		return tx(text + of[1].Text), api.OK
	case "like":
		return bo(plainLike(plainCharacters(text), plainCharacters(of[1].Text))), api.OK
	case "length":
		return in(int64(len(plainCharacters(text)))), api.OK
	case "substr":
		from, end := big.NewInt(of[1].Int), big.NewInt(of[2].Int)
		end.Add(from, end)
		part := ""
		for i, c := range plainCharacters(text) {
			if p := big.NewInt(int64(i + 1)); from.Cmp(p) <= 0 && p.Cmp(end) < 0 {
				part += c
			}
		}
		return tx(part), api.OK
	}
	small, great := "abcdefghijklmnopqrstuvwxyz", "ABCDEFGHIJKLMNOPQRSTUVWXYZ"
	if word == "lower" {
		small, great = great, small
	}
	turned := ""
	for i := range len(text) {
		if at := strings.IndexByte(small, text[i]); at >= 0 {
			turned += great[at : at+1]
		} else {
			turned += text[i : i+1]
		}
	}
	return tx(turned), api.OK
}

// plainLike tells which ends of the text each begin of the pattern can stand for, one character of it after the other.
func plainLike(text, pattern []string) bool {
	at := make([]bool, len(text)+1)
	at[0] = true
	for _, p := range pattern {
		next := make([]bool, len(text)+1)
		for i := range at {
			switch {
			case p == "%":
				next[i] = at[i] || i > 0 && next[i-1]
			case i > 0 && at[i-1]:
				next[i] = p == "_" || p == text[i-1]
			}
		}
		at = next
	}
	return at[len(text)]
}
