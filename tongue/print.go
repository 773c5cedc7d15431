package tongue

import (
	"slices"
	"strconv"
	"strings"

	"strata/api"
)

// writer lays tokens one behind the other, with one blank between two of them (P15.8).
type writer struct {
	out   strings.Builder
	glued bool // no blank stands ahead of the next token
}

func (w *writer) put(tokens ...string) {
	for _, t := range tokens {
		if !w.glued && t != ")" && t != "," && t != ";" {
			w.out.WriteByte(' ')
		}
		w.out.WriteString(t)
		w.glued = t == "(" || t == "@"
	}
}

// glue lays tokens of which the second one follows the first without a blank.
func (w *writer) glue(first, second string) {
	w.put(first)
	w.glued = true
	w.put(second)
}

func (w *writer) name(name string) { w.put(nameText(name)) }

func (w *writer) number(n int) { w.put(strconv.Itoa(n)) }

// listed writes entries with commas between them.
func listed[T any](w *writer, list []T, entry func(*writer, T)) {
	for i, x := range list {
		if i > 0 {
			w.put(",")
		}
		entry(w, x)
	}
}

// inBrackets writes them with brackets round them.
func inBrackets[T any](w *writer, list []T, entry func(*writer, T)) {
	w.put("(")
	listed(w, list, entry)
	w.put(")")
}

// command writes a command and ends its line.
func (w *writer) command(c api.Command) {
	w.put(commandWords[c.Kind])
	switch c.Kind {
	case api.CmStmt:
		w.number(c.Who)
		w.statement(c.Stmt)
	case api.CmPlay:
		w.put(hexText(c.Bytes))
	case api.CmTick, api.CmMerge, api.CmCut:
		w.number(c.Num)
	case api.CmCrash:
		listed(w, c.Keep, (*writer).number)
	}
	w.put(";")
	w.out.WriteByte('\n')
	w.glued = true
}

func hexText(text string) string {
	const digits = "0123456789abcdef"
	hex := []byte("x'")
	for _, b := range []byte(text) {
		hex = append(hex, digits[b>>4], digits[b&15])
	}
	return string(append(hex, '\''))
}

func (w *writer) statement(s api.Stmt) {
	w.put(statementWords[s.Kind])
	switch s.Kind {
	case api.StCreate:
		w.create(s)
	case api.StDrop:
		w.put("TABLE")
		w.name(s.Table)
	case api.StInsert:
		w.insert(s)
	case api.StSelect:
		w.query(s)
	case api.StUpdate:
		w.update(s)
	case api.StDelete:
		w.put("FROM")
		w.name(s.Table)
		w.where(s.Where)
	case api.StBegin:
		w.put(levelWords[s.Level]...)
	}
}

func (w *writer) create(s api.Stmt) {
	w.put("TABLE")
	w.name(s.Table)
	w.put("(")
	listed(w, s.Cols, (*writer).column)
	w.put(",", "PRIMARY", "KEY")
	inBrackets(w, s.Key, (*writer).name)
	w.put(")")
}

func (w *writer) column(c api.ColDef) {
	w.name(c.Name)
	w.put(typeWords[c.Type])
	if c.NotNull {
		w.put("NOT", "NULL")
	}
}

func (w *writer) insert(s api.Stmt) {
	w.put("INTO")
	w.name(s.Table)
	if len(s.Names) > 0 {
		inBrackets(w, s.Names, (*writer).name)
	}
	w.put("VALUES")
	listed(w, s.Rows, (*writer).row)
}

func (w *writer) row(row []api.Expr) { inBrackets(w, row, (*writer).expr) }

func (w *writer) query(s api.Stmt) {
	if len(s.Items) == 0 {
		w.put("*")
	}
	listed(w, s.Items, (*writer).item)
	w.put("FROM")
	w.name(s.Table)
	w.where(s.Where)
	if len(s.Order) > 0 {
		w.put("ORDER", "BY")
		listed(w, s.Order, (*writer).sort)
	}
	if s.Limit >= 0 {
		w.put("LIMIT", strconv.FormatInt(s.Limit, 10))
	}
}

func (w *writer) item(i api.Item) {
	if i.Agg == api.AgNone {
		w.expr(i.Of)
	} else {
		w.aggregate(i)
	}
	if i.As != "" {
		w.put("AS")
		w.name(i.As)
	}
}

func (w *writer) aggregate(i api.Item) {
	w.glue(aggregateWords[i.Agg], "(")
	if len(i.Of) == 0 {
		w.put("*")
	} else {
		w.expr(i.Of)
	}
	w.put(")")
}

func (w *writer) sort(s api.Sort) {
	w.name(s.Col)
	if s.Desc {
		w.put("DESC")
	}
}

func (w *writer) update(s api.Stmt) {
	w.name(s.Table)
	w.put("SET")
	for i, name := range s.Names {
		if i > 0 {
			w.put(",")
		}
		w.name(name)
		w.put("=")
		w.expr(s.Rows[0][i])
	}
	w.where(s.Where)
}

func (w *writer) where(e api.Expr) {
	if len(e) > 0 {
		w.put("WHERE")
		w.expr(e)
	}
}

// expr writes an expression that is known to be one.
func (w *writer) expr(e api.Expr) {
	if tree, good := treeOf(e); good {
		w.node(tree)
	}
}

func (w *writer) node(n node) {
	switch x := n.(type) {
	case leaf:
		w.put(x.text)
	case brackets:
		w.put("(")
		w.node(x.of)
		w.put(")")
	case prefix:
		w.prefix(x)
	case infix:
		w.chain(x)
	case nullness:
		w.node(x.of)
		w.put("IS")
		w.denial(x.denied)
		w.put("NULL")
	case between:
		w.node(x.of)
		w.denial(x.denied)
		w.put("BETWEEN")
		w.node(x.low)
		w.put("AND")
		w.node(x.high)
	case member:
		w.node(x.of)
		w.denial(x.denied)
		w.put("IN")
		inBrackets(w, x.list, (*writer).node)
	case choice:
		w.choice(x)
	case call:
		w.glue(x.name, "(")
		listed(w, x.arguments, (*writer).node)
		w.put(")")
	}
}

func (w *writer) denial(denied bool) {
	if denied {
		w.put("NOT")
	}
}

// prefix writes an operator and its operand; two minuses without a blank between them would be a comment.
func (w *writer) prefix(x prefix) {
	w.put(x.sign.text)
	if _, again := x.of.(prefix); x.sign.op == api.ExNeg && !again {
		w.glued = true
	}
	w.node(x.of)
}

// chain writes what leans to the left, by a loop: there it may be as deep as the list is long.
func (w *writer) chain(x infix) {
	links := []infix{x}
	for more := true; more; {
		var left infix
		if left, more = links[len(links)-1].left.(infix); more {
			links = append(links, left)
		}
	}
	w.node(links[len(links)-1].left)
	for _, link := range slices.Backward(links) {
		w.denial(link.denied)
		w.put(link.sign.text)
		w.node(link.right)
	}
}

func (w *writer) choice(x choice) {
	w.put("CASE")
	last := len(x.parts) - 1
	for i := 0; i < last; i += 2 {
		w.put("WHEN")
		w.node(x.parts[i])
		w.put("THEN")
		w.node(x.parts[i+1])
	}
	w.put("ELSE")
	w.node(x.parts[last])
	w.put("END")
}
