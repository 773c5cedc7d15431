package tongue_test

import (
	"encoding/hex"
	"fmt"
	"math/big"
	"regexp"
	"slices"
	"strings"

	"strata/api"
)

// What the chapter says, written down plainly a second time.

// plainKeywords is the chapter's list, to the letter.
const plainKeywords = "AND AS ASC BEGIN BETWEEN BOOL BY CASE CHECK CHECKPOINT COMMIT COMMITTED COUNT CRASH CREATE CUT DELETE DESC DRAIN DROP ELSE END FALSE FLUSH FROM IN INSERT INT INTO IS KEY LIKE LIMIT MAX MERGE MIN NOT NULL OR ORDER PLAY PRIMARY READ REPEATABLE RESTART ROLLBACK SELECT SERIALIZABLE SET SNAPSHOT SUM SYNC TABLE TEXT THEN TICK TRUE UPDATE VALUES WHEN WHERE"

var plainKeys = strings.Fields(plainKeywords)

// plainSigns likewise.
const plainSigns = "( ) , ; * + - / % = <> < <= > >= || @"

var (
	blankForm  = regexp.MustCompile(`^[ \t\n\r]+`)
	lineForm   = regexp.MustCompile(`^--[^\n]*`)
	remarkForm = regexp.MustCompile(`(?s)^/\*.*?\*/`)
	hexForm    = regexp.MustCompile(`(?s)^[xX]'([^']*)'`)
	pairsForm  = regexp.MustCompile(`^([0-9a-fA-F]{2})*$`)
	wordForm   = regexp.MustCompile(`^[A-Za-z_][A-Za-z0-9_]*`)
	digitsForm = regexp.MustCompile(`^[0-9]+`)
	nameForm   = regexp.MustCompile(`(?s)^"((?:[^"]|"")*)"`)
	textForm   = regexp.MustCompile(`(?s)^'((?:[^']|'')*)'`)
	signForm   = regexp.MustCompile(`^(<>|<=|>=|\|\||!=|[(),;*+/%=<>@-])`)
	plainForm  = regexp.MustCompile(`^[a-z_][a-z0-9_]*$`)
)

// plainLex reads a text's tokens by forms.
func plainLex(text string) ([]api.Token, api.Errno, int) {
	if len(text) > api.MaxScript {
		return nil, api.ErrLong, 0
	}
	var tokens []api.Token
	for at := 0; at < len(text); {
		rest := text[at:]
		if gap := blankForm.FindString(rest) + lineForm.FindString(rest) + remarkForm.FindString(rest); gap != "" {
			at += len(gap)
			continue
		}
		t, long, e := plainToken(rest)
		if e != api.OK {
			return nil, e, at
		}
		t.At = at
		tokens = append(tokens, t)
		at += long
	}
	return append(tokens, api.Token{At: len(text)}), api.OK, 0
}

// plainToken reads the token at the begin of a text, and how long it is.
func plainToken(rest string) (t api.Token, long int, e api.Errno) {
	quoted := func(form *regexp.Regexp, quote string) (string, bool) {
		m := form.FindStringSubmatch(rest)
		if m == nil || strings.HasPrefix(rest[len(m[0]):], quote) { // an odd number of quotes at the end
			return "", false
		}
		long = len(m[0])
		return strings.ReplaceAll(m[1], quote+quote, quote), true
	}
	named := func(text string) (api.Token, int, api.Errno) {
		if text == "" || len(text) > api.MaxName {
			return t, 0, api.ErrIdent
		}
		return name(text), long, api.OK
	}
	texted := func(text string) (api.Token, int, api.Errno) {
		if len(text) > api.MaxText {
			return t, 0, api.ErrLong
		}
		return literal(text), long, api.OK
	}
	switch first := rest[0]; {
	case strings.HasPrefix(rest, "/*"):
		return t, 0, api.ErrUnclosed
	case (first == 'x' || first == 'X') && strings.HasPrefix(rest[1:], "'"):
		m := hexForm.FindStringSubmatch(rest)
		if m == nil {
			return t, 0, api.ErrUnclosed
		}
		if !pairsForm.MatchString(m[1]) {
			return t, 0, api.ErrHex
		}
		long = len(m[0])
		bytes, _ := hex.DecodeString(m[1])
		return texted(string(bytes))
	case first == '"':
		if text, closed := quoted(nameForm, `"`); closed {
			return named(text)
		}
		return t, 0, api.ErrUnclosed
	case first == '\'':
		if text, closed := quoted(textForm, `'`); closed {
			return texted(text)
		}
		return t, 0, api.ErrUnclosed
	case wordForm.MatchString(rest):
		word := wordForm.FindString(rest)
		long = len(word)
		if slices.Contains(plainKeys, strings.ToUpper(word)) {
			return key(strings.ToUpper(word)), long, api.OK
		}
		return named(strings.ToLower(word))
	case digitsForm.MatchString(rest):
		digits := digitsForm.FindString(rest)
		n, _ := new(big.Int).SetString(digits, 10)
		if !n.IsInt64() || wordForm.MatchString(rest[len(digits):]) {
			return t, 0, api.ErrNumeral
		}
		return number(n.Int64()), len(digits), api.OK
	case signForm.MatchString(rest):
		text := signForm.FindString(rest)
		return sign(strings.Replace(text, "!=", "<>", 1)), len(text), api.OK
	}
	return t, 0, api.ErrChar
}

// plainArguments are the numbers of arguments that a function may have, from and to; 0 for what is no function.
func plainArguments(name string) (int, int) {
	switch name {
	case "abs", "length", "lower", "upper":
		return 1, 1
	case "nullif":
		return 2, 2
	case "substr":
		return 3, 3
	case "coalesce", "least", "greatest":
		return 1, 16
	}
	return 0, 0
}

// ring is what is open at a token: 's' a command, 'r' brackets that are no nesting, '(' a bracketed expression, 'f' a call, 'i' an IN list, 'c' a CASE, 'n' a NOT, '-' a minus.
type ring struct {
	kind    byte
	at      int // the place of a call's name
	name    string
	commas  int
	whens   int
	between bool // its AND is still to come
}

// bounds goes along tokens that may stand so, and finds the first that breaks a limit.
type bounds struct {
	rings    []ring
	commands int
	first    string // the command's or statement's first keyword
	values   bool   // VALUES has come
	deepest  int
}

func (b *bounds) top() *ring { return &b.rings[len(b.rings)-1] }

func (b *bounds) pop() ring {
	r := *b.top()
	b.rings = b.rings[:len(b.rings)-1]
	return r
}

func (b *bounds) popAll(kind byte) {
	for b.top().kind == kind {
		b.pop()
	}
}

func (b *bounds) open(r ring) bool {
	b.rings = append(b.rings, r)
	depth := 0
	for _, r := range b.rings {
		if r.kind != 's' && r.kind != 'r' {
			depth++
		}
	}
	b.deepest = max(b.deepest, depth)
	return depth <= api.MaxDepth
}

// ends tells whether an operand ends with a token.
func ends(t api.Token) bool {
	switch t.Kind {
	case api.TokName, api.TokInt, api.TokText:
		return true
	}
	return slices.Contains([]string{")", "END", "NULL", "TRUE", "FALSE"}, t.Text) && t.Kind != api.TokEnd
}

// look looks at one token, with those ahead of it and behind it; the error and the place of what is wrong.
func (b *bounds) look(before, t, after api.Token) (api.Errno, int) {
	word := ""
	if t.Kind == api.TokKey || t.Kind == api.TokSign {
		word = t.Text
	}
	if b.first == "" && t.Kind == api.TokKey {
		b.first = word
	}
	switch word { // behind these no NOT is open
	case "OR", ",", ")", "THEN", "WHEN", "ELSE", "END", "FROM", "AS", "WHERE", "ORDER", "LIMIT", ";":
		b.popAll('n')
	}
	e, at := b.act(word, before, t, after)
	if ends(t) && !(t.Kind == api.TokName && after == (api.Token{Kind: api.TokSign, Text: "(", At: after.At})) {
		b.popAll('-')
	}
	return e, at
}

func (b *bounds) act(word string, before, t, after api.Token) (api.Errno, int) {
	deep := true
	switch word {
	case "-":
		if !ends(before) {
			deep = b.open(ring{kind: '-'})
		}
	case "NOT":
		if !ends(before) && !slices.Contains([]string{"IS", "INT", "TEXT", "BOOL"}, before.Text) {
			deep = b.open(ring{kind: 'n'})
		}
	case "CASE":
		deep = b.open(ring{kind: 'c'})
	case "WHEN":
		if b.top().whens++; b.top().whens > api.MaxList {
			return api.ErrMany, t.At
		}
	case "END":
		b.pop()
	case "BETWEEN":
		b.top().between = true
	case "AND":
		if !b.top().between {
			b.popAll('n')
		}
		b.top().between = false
	case "ORDER":
		b.top().commas = 0
	case "VALUES":
		b.values = true
	case "(":
		return b.bracket(before, t)
	case ")":
		r := b.pop()
		if least, most := plainArguments(r.name); r.kind == 'f' && (r.commas+1 < least || r.commas+1 > most) {
			return api.ErrFunction, r.at
		}
	case ",":
		return b.comma(t, after)
	}
	if !deep {
		return api.ErrDeep, t.At
	}
	return api.OK, 0
}

func (b *bounds) bracket(before, t api.Token) (api.Errno, int) {
	r := ring{kind: '('}
	aggregate := before.Kind == api.TokKey && slices.Contains([]string{"COUNT", "SUM", "MIN", "MAX"}, before.Text)
	switch {
	case b.first == "CREATE", b.first == "INSERT" && len(b.rings) == 1, aggregate:
		r.kind = 'r'
	case before.Kind == api.TokKey && before.Text == "IN":
		r.kind = 'i'
	case before.Kind == api.TokName:
		r = ring{kind: 'f', at: before.At, name: before.Text}
		if least, _ := plainArguments(r.name); least == 0 {
			return api.ErrFunction, r.at
		}
	}
	if !b.open(r) {
		return api.ErrDeep, t.At
	}
	return api.OK, 0
}

func (b *bounds) comma(t, after api.Token) (api.Errno, int) {
	r := b.top()
	r.commas++
	most := api.MaxList
	if b.first == "INSERT" && r.kind == 's' {
		most = api.MaxRows
	}
	columns := b.first == "CREATE" && len(b.rings) == 2
	if r.commas < most || columns && after.Kind != api.TokName {
		return api.OK, 0
	}
	return api.ErrMany, t.At
}

// plainFault tells what is wrong with tokens of a script (an expression), of which the one numbered wrong, or none (-1), is the first with which no text goes on.
func plainFault(tokens []api.Token, wrong int, script bool) (api.Errno, int) {
	b := bounds{rings: []ring{{kind: 's'}}}
	var before, after api.Token
	for i, t := range tokens {
		if script && t.Kind != api.TokEnd && (i == 0 || b.rings == nil) { // a command begins
			b.rings, b.first, b.values = []ring{{kind: 's'}}, "", false
			if b.commands++; b.commands > api.MaxCommands {
				return api.ErrMany, t.At
			}
		}
		if i == wrong {
			return api.ErrSyntax, t.At
		}
		if t.Kind == api.TokEnd {
			break
		}
		after = tokens[i+1]
		if e, at := b.look(before, t, after); e != api.OK {
			return e, at
		}
		if before = t; script && t.Kind == api.TokSign && t.Text == ";" {
			b.rings, before = nil, api.Token{}
		}
	}
	return api.OK, 0
}

// plainNestings tells how many nestings an expression that may stand so has open at a time.
func plainNestings(text string) int {
	tokens, _, _ := plainLex(text)
	b := bounds{rings: []ring{{kind: 's'}}}
	for i, t := range tokens[:len(tokens)-1] {
		before := api.Token{}
		if i > 0 {
			before = tokens[i-1]
		}
		b.look(before, t, tokens[i+1])
	}
	return b.deepest
}

// plainTree is a node with its operands.
type plainTree struct {
	api.Node
	of []plainTree
}

// plainTreeOf takes an expression apart, from its end; what is left of the list comes too. false, if there is too little.
func plainTreeOf(e api.Expr) (plainTree, api.Expr, bool) {
	if len(e) == 0 {
		return plainTree{}, nil, false
	}
	last := len(e) - 1
	t, rest := plainTree{Node: e[last]}, e[:last]
	for range t.N {
		var of plainTree
		var good bool
		if of, rest, good = plainTreeOf(rest); !good {
			return t, nil, false
		}
		t.of = slices.Insert(t.of, 0, of)
	}
	return t, rest, true
}

// isDenial tells whether a node is an ExNot that is printed within its operand.
func (t plainTree) isDenial() bool {
	return t.Op == api.ExNot && slices.Contains([]int{api.ExBetween, api.ExIn, api.ExLike}, t.of[0].Op)
}

func (t plainTree) level() int {
	switch t.Op {
	case api.ExOr:
		return 1
	case api.ExAnd:
		return 2
	case api.ExNot:
		if t.isDenial() {
			return 4
		}
		return 3
	case api.ExEq, api.ExNe, api.ExLt, api.ExLe, api.ExGt, api.ExGe, api.ExIsNull, api.ExNotNull, api.ExBetween, api.ExIn, api.ExLike:
		return 4
	case api.ExCat:
		return 5
	case api.ExAdd, api.ExSub:
		return 6
	case api.ExMul, api.ExDiv, api.ExMod:
		return 7
	case api.ExNeg:
		return 8
	}
	return 9
}

// asks is the level that the place of an operand asks for.
func (t plainTree) asks(place int) int {
	switch t.Op {
	case api.ExOr:
		return []int{1, 2}[place]
	case api.ExAnd:
		return []int{2, 3}[place]
	case api.ExNot:
		return 3
	case api.ExIn:
		if place > 0 {
			return 1
		}
		return 5
	case api.ExCat:
		return []int{5, 6}[place]
	case api.ExAdd, api.ExSub:
		return []int{6, 7}[place]
	case api.ExMul, api.ExDiv, api.ExMod:
		return []int{7, 8}[place]
	case api.ExNeg:
		return 8
	case api.ExCase, api.ExCall:
		return 1
	}
	return 5
}

// infixes are the operators between two operands, by their operations.
func infixes() map[int]string {
	return map[int]string{
		api.ExAdd: "+", api.ExSub: "-", api.ExMul: "*", api.ExDiv: "/", api.ExMod: "%", api.ExCat: "||", api.ExEq: "=", api.ExNe: "<>", api.ExLt: "<", api.ExLe: "<=", api.ExGt: ">", api.ExGe: ">=",
		api.ExAnd: "AND", api.ExOr: "OR", api.ExLike: "LIKE",
	}
}

func plainName(name string) string {
	if plainForm.MatchString(name) && !slices.Contains(plainKeys, strings.ToUpper(name)) {
		return name
	}
	return `"` + strings.ReplaceAll(name, `"`, `""`) + `"`
}

func plainText(text string) string { return "'" + strings.ReplaceAll(text, "'", "''") + "'" }

// print prints a node with brackets just where they are needed.
func (t plainTree) print() string {
	if t.isDenial() {
		inner := t.of[0].prints()
		return inner[0] + " NOT " + inner[1]
	}
	return strings.Join(t.prints(), " ")
}

// prints prints a node: its first operand, and the rest; where it begins otherwise, the whole.
func (t plainTree) prints() []string {
	var of []string
	for i, o := range t.of {
		s := o.print()
		if o.level() < t.asks(i) {
			s = "(" + s + ")"
		}
		of = append(of, s)
	}
	switch t.Op {
	case api.ExInt:
		return []string{fmt.Sprint(t.Num)}
	case api.ExText:
		return []string{plainText(t.Text)}
	case api.ExNull:
		return []string{"NULL"}
	case api.ExTrue:
		return []string{"TRUE"}
	case api.ExFalse:
		return []string{"FALSE"}
	case api.ExCol:
		return []string{plainName(t.Text)}
	case api.ExNeg:
		if of[0][0] == '-' {
			return []string{"- " + of[0]}
		}
		return []string{"-" + of[0]}
	case api.ExNot:
		return []string{"NOT " + of[0]}
	case api.ExIsNull:
		return []string{of[0], "IS NULL"}
	case api.ExNotNull:
		return []string{of[0], "IS NOT NULL"}
	case api.ExBetween:
		return []string{of[0], "BETWEEN " + of[1] + " AND " + of[2]}
	case api.ExIn:
		return []string{of[0], "IN (" + strings.Join(of[1:], ", ") + ")"}
	case api.ExCase:
		s := "CASE"
		for i := 0; i+1 < len(of); i += 2 {
			s += " WHEN " + of[i] + " THEN " + of[i+1]
		}
		return []string{s + " ELSE " + of[len(of)-1] + " END"}
	case api.ExCall:
		return []string{t.Text + "(" + strings.Join(of, ", ") + ")"}
	}
	return []string{of[0], infixes()[t.Op] + " " + of[1]}
}

// plainExpr tells whether a list is an expression, and its print.
func plainExpr(e api.Expr) (string, bool) {
	stack := 0
	for _, n := range e {
		if !plainNode(n) || n.N > stack {
			return "", false
		}
		stack += 1 - n.N
	}
	if stack != 1 {
		return "", false
	}
	t, _, _ := plainTreeOf(e)
	print := t.print()
	return print, 2*len(e) <= api.MaxDepth || plainNestings(print) <= api.MaxDepth // a node and brackets round it open two at most
}

// plainNode tells whether a node may be: its N, Num and Text.
func plainNode(n api.Node) bool {
	if n.Num < 0 || n.Num != 0 && n.Op != api.ExInt {
		return false
	}
	if n.Text != "" && n.Op != api.ExText && n.Op != api.ExCol && n.Op != api.ExCall {
		return false
	}
	switch n.Op {
	case api.ExInt, api.ExNull, api.ExTrue, api.ExFalse:
		return n.N == 0
	case api.ExText:
		return n.N == 0 && len(n.Text) <= api.MaxText
	case api.ExCol:
		return n.N == 0 && len(n.Text) >= 1 && len(n.Text) <= api.MaxName
	case api.ExNeg, api.ExNot, api.ExIsNull, api.ExNotNull:
		return n.N == 1
	case api.ExBetween:
		return n.N == 3
	case api.ExIn:
		return n.N >= 2 && n.N <= 17
	case api.ExCase:
		return n.N >= 3 && n.N <= 33 && n.N%2 == 1
	case api.ExCall:
		least, most := plainArguments(n.Text)
		return least > 0 && n.N >= least && n.N <= most
	}
	return infixes()[n.Op] != "" && n.N == 2
}
