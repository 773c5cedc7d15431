package tongue

import "strata/api"

// levelRule reads an expression of a level, or of one above it; it is told which.
type levelRule func(r *reader, level int)

// levelRules gives them by the levels.
func levelRules() []levelRule {
	return []levelRule{
		levelOr:      (*reader).chain,
		levelAnd:     (*reader).chain,
		levelNot:     (*reader).prefixed,
		levelTest:    (*reader).test,
		levelCat:     (*reader).chain,
		levelSum:     (*reader).chain,
		levelProduct: (*reader).chain,
		levelMinus:   (*reader).prefixed,
		levelPrimary: (*reader).primary,
	}
}

// firstRule reads a primary that begins with a token of a kind, and of a text, if that is not empty.
type firstRule struct {
	kind int
	text string
	read func(*reader)
}

func firstRules() []firstRule {
	return []firstRule{
		{api.TokInt, "", (*reader).literal},
		{api.TokText, "", (*reader).text},
		{api.TokName, "", (*reader).named},
		{api.TokKey, "NULL", (*reader).constant},
		{api.TokKey, "TRUE", (*reader).constant},
		{api.TokKey, "FALSE", (*reader).constant},
		{api.TokKey, "CASE", (*reader).choice},
		{api.TokSign, "(", (*reader).enclosed},
	}
}

// lone reads an expression with the text's end behind it.
func (r *reader) lone() api.Expr {
	e := r.expr()
	if r.next().Kind != api.TokEnd {
		panic(r.wrong())
	}
	return e
}

// expr reads a whole expression into a list of its own; it begins with no nesting open, since those of the last one are closed.
func (r *reader) expr() api.Expr {
	r.out = nil
	r.operand(levelAny)
	return r.out
}

// operand reads what may stand, without brackets, where a level is asked for.
func (r *reader) operand(level int) { r.levels[level](r, level) }

// put lays an operation behind its operands.
func (r *reader) put(op, operands int) {
	r.out = append(r.out, api.Node{Op: op, N: operands})
}

// nest opens a nesting with the token that comes next, reads what is within, and closes it.
func (r *reader) nest(within func()) {
	if r.open == api.MaxDepth {
		panic(fault{api.ErrDeep, r.next().At})
	}
	r.place++
	r.open++
	within()
	r.open--
}

// operator finds the one of a level that comes next.
func (r *reader) operator(level int) (operator, bool) {
	for _, o := range operators {
		if o.level == level && r.is(o.text) {
			return o, true
		}
	}
	return operator{}, false
}

// rest reads an operator of a level and its right operand, if one comes next.
func (r *reader) rest(level int) bool {
	o, found := r.operator(level)
	if found {
		r.take(o.text)
		r.operand(o.right)
		r.put(o.op, 2)
	}
	return found
}

// chain reads operands with operators of the level between them, from the left.
func (r *reader) chain(level int) {
	r.operand(level + 1)
	for r.rest(level) {
	}
}

func (r *reader) prefixed(level int) {
	o, found := r.operator(level)
	if !found {
		r.operand(level + 1)
		return
	}
	r.nest(func() { r.operand(o.right) })
	r.put(o.op, 1)
}

func (r *reader) test(level int) {
	r.operand(level + 1)
	switch {
	case r.takes("IS"):
		r.nullness()
	case r.takes("NOT"):
		if !r.deniable(level) {
			panic(r.wrong())
		}
		r.put(api.ExNot, 1)
	case !r.deniable(level):
		r.rest(level)
	}
}

func (r *reader) nullness() {
	op := api.ExIsNull
	if r.takes("NOT") {
		op = api.ExNotNull
	}
	r.take("NULL")
	r.put(op, 1)
}

// deniable reads the rest of a test that may have a NOT ahead of it, if such a one comes next.
func (r *reader) deniable(level int) bool {
	switch {
	case r.takes("BETWEEN"):
		r.operand(level + 1)
		r.take("AND")
		r.operand(level + 1)
		r.put(api.ExBetween, 3)
	case r.takes("IN"):
		r.put(api.ExIn, 1+r.arguments())
	case r.is("LIKE"):
		r.rest(level)
	default:
		return false
	}
	return true
}

// arguments reads expressions in brackets and tells how many they were.
func (r *reader) arguments() (n int) {
	if !r.is("(") {
		panic(r.wrong())
	}
	r.nest(func() {
		n = len(listOf(r, api.MaxList, (*reader).inner))
		r.take(")")
	})
	return n
}

// inner reads an expression within another one: its nodes go into the same list, so there is nothing left to answer.
func (r *reader) inner() struct{} {
	r.operand(levelAny)
	return struct{}{}
}

func (r *reader) primary(int) {
	t := r.next()
	for _, first := range r.firsts {
		if first.kind == t.Kind && (first.text == "" || first.text == t.Text) {
			first.read(r)
			return
		}
	}
	panic(r.wrong())
}

func (r *reader) literal() {
	r.out = append(r.out, api.Node{Op: api.ExInt, Num: r.integer()})
}

func (r *reader) text() {
	r.out = append(r.out, api.Node{Op: api.ExText, Text: r.token(api.TokText).Text})
}

func (r *reader) constant() {
	for op, word := range constantWords {
		if r.takes(word) {
			r.put(op, 0)
			return
		}
	}
}

// named reads a column, or a call, if a bracket stands behind the name.
func (r *reader) named() {
	name := r.token(api.TokName)
	if !r.is("(") {
		r.out = append(r.out, api.Node{Op: api.ExCol, Text: name.Text})
		return
	}
	f, found := functionOf(name.Text)
	if !found {
		panic(fault{api.ErrFunction, name.At})
	}
	n := r.arguments()
	if !f.arguments.holds(n) {
		panic(fault{api.ErrFunction, name.At})
	}
	r.out = append(r.out, api.Node{Op: api.ExCall, N: n, Text: name.Text})
}

func (r *reader) enclosed() {
	r.nest(func() {
		r.operand(levelAny)
		r.take(")")
	})
}

func (r *reader) choice() {
	whens := 0
	r.nest(func() {
		for whens == 0 || r.is("WHEN") {
			if whens == api.MaxList {
				panic(fault{api.ErrMany, r.next().At})
			}
			whens++
			r.take("WHEN")
			r.operand(levelAny)
			r.take("THEN")
			r.operand(levelAny)
		}
		if r.takes("ELSE") {
			r.operand(levelAny)
		} else {
			r.put(api.ExNull, 0)
		}
		r.take("END")
	})
	r.put(api.ExCase, 2*whens+1)
}
