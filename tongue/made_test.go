package tongue_test

import (
	"fmt"
	"math"
	"math/rand"
	"slices"
	"strings"
	"sync"
	"testing"

	"strata/api"
)

// maker makes things up.
type maker struct{ *rand.Rand }

func newMaker(seed int64) *maker { return &maker{rand.New(rand.NewSource(seed))} }

// one is true once in n times.
func (m *maker) one(n int) bool { return m.Intn(n) == 0 }

func pick[T any](m *maker, list ...T) T { return list[m.Intn(len(list))] }

// inBatches tries something n times, with makers of different seeds, in eight goroutines; what it tells first is the fault.
func inBatches(t *testing.T, n int, try func(m *maker) string) {
	t.Helper()
	var group sync.WaitGroup
	for batch := range 8 {
		group.Go(func() {
			for seed := batch; seed < n; seed += 8 {
				if fault := try(newMaker(int64(seed))); fault != "" {
					t.Errorf("seed %d: %.2000s", seed, fault)
					return
				}
			}
		})
	}
	group.Wait()
}

func (m *maker) name() string {
	if m.one(3) {
		return pick(m, "select", "Select", "END", "\"", "a\"b", "x y", "", "\x00", "\xff", "ä", "1a", "9", "_", "_9", "abs", "coalesce", "--", "/*", "'", "x'", ";", "ß", "@", many(32, "n"), many(32, "\""), many(16, "ä"), "a.b", "Ab", "aB", "A", "x", "X")
	}
	return pick(m, "a", "b", "c", "d", "t", "a_1", "x", "key1")
}

// goodName is none that is empty.
func (m *maker) goodName() string {
	for {
		if name := m.name(); name != "" {
			return name
		}
	}
}

func (m *maker) text() string {
	if m.one(40) {
		return many(api.MaxText-m.Intn(2), pick(m, "t", "'", "\xfe"))
	}
	return pick(m, "", "a", "'", "''", "a'b", "it''s", "--", "/*", "*/", "\x00", "\xff\x00", "ä", "\n", "x'41'", "\"", "SELECT", "(", ";")
}

func (m *maker) number() int64 {
	return pick(m, 0, 1, 2, 7, 10, 100, math.MaxInt64-1, math.MaxInt64, int64(m.Intn(1000)))
}

func (m *maker) leaf() api.Node {
	switch m.Intn(10) {
	case 0, 1, 2:
		return num(m.number())
	case 3, 4:
		return text(m.text())
	case 5:
		return op(pick(m, api.ExNull, api.ExTrue, api.ExFalse), 0)
	}
	return col(m.goodName())
}

// expr makes up a list of some nodes that is an expression, but for its nestings.
func (m *maker) expr(size int) api.Expr {
	if size <= 1 {
		return expr(m.leaf())
	}
	parts := func(n int) (list []api.Expr) {
		for range n {
			list = append(list, m.expr((size-1)/n))
		}
		return list
	}
	switch m.Intn(12) {
	case 0:
		return over(op(api.ExNeg, 0), m.expr(size-1))
	case 1:
		return over(op(api.ExNot, 0), m.expr(size-1))
	case 2:
		return over(op(pick(m, api.ExIsNull, api.ExNotNull), 0), m.expr(size-1))
	case 3:
		return over(op(api.ExBetween, 0), parts(3)...)
	case 4:
		return over(op(api.ExIn, 0), parts(2+m.Intn(3))...)
	case 5:
		return over(op(api.ExCase, 0), parts(3+2*m.Intn(2))...)
	case 6:
		f := pick(m, "abs", "length", "lower", "upper", "nullif", "substr", "coalesce", "least", "greatest")
		least, most := plainArguments(f)
		return over(call(f, 0), parts(least+m.Intn(min(most-least, 2)+1))...)
	}
	o := api.ExAdd + m.Intn(api.ExLike-api.ExAdd+1)
	left := m.Intn(size)
	return over(op(o, 0), m.expr(left), m.expr(size-1-left))
}

// goodExpr makes up an expression.
func (m *maker) goodExpr() api.Expr {
	for {
		if e := m.expr(1 + m.Intn(pick(m, 3, 12))); plainExprs(e) {
			return e
		}
	}
}

// long is mostly a small length, but sometimes the greatest one.
func (m *maker) long(least, most int) int {
	if m.one(12) {
		return most - m.Intn(2)*m.Intn(most-least+1)
	}
	return min(most, least+m.Intn(4))
}

func listed[T any](n int, entry func() T) (list []T) {
	for range n {
		list = append(list, entry())
	}
	return list
}

// where is an expression or none.
func (m *maker) where() api.Expr {
	if m.one(2) {
		return nil
	}
	return m.goodExpr()
}

// command makes up a valid one.
func (m *maker) command() api.Command {
	c := api.Command{Kind: 1 + m.Intn(12)}
	if m.one(2) {
		c.Kind = api.CmStmt
	}
	switch c.Kind {
	case api.CmStmt:
		c.Who, c.Stmt = int(m.number()), m.statement(1+m.Intn(9))
	case api.CmPlay:
		c.Bytes = m.text()
	case api.CmTick, api.CmMerge, api.CmCut:
		c.Num = int(m.number())
	case api.CmCrash:
		c.Keep = listed(m.long(0, 16), func() int { return int(m.number()) })
	}
	return c
}

func (m *maker) statement(kind int) api.Stmt {
	s := api.Stmt{Kind: kind}
	if kind <= api.StDelete {
		s.Table = m.goodName()
	}
	row := func(n int) []api.Expr { return listed(n, m.goodExpr) }
	switch kind {
	case api.StCreate:
		s.Cols = listed(m.long(1, 16), func() api.ColDef {
			return api.ColDef{Name: m.goodName(), Type: pick(m, api.KBool, api.KInt, api.KText), NotNull: m.one(2)}
		})
		s.Key = listed(m.long(1, 16), m.goodName)
	case api.StInsert:
		s.Names = listed(m.long(0, 16), m.goodName)
		rows := m.long(1, 8)
		if m.one(30) {
			rows = 64
		}
		s.Rows = listed(rows, func() []api.Expr { return row(m.long(1, 16)) })
	case api.StSelect:
		s.Items = listed(m.long(0, 16), m.item)
		s.Where = m.where()
		s.Order = listed(m.long(0, 16), func() api.Sort { return api.Sort{Col: m.goodName(), Desc: m.one(2)} })
		s.Limit = pick(m, -1, 0, m.number())
	case api.StUpdate:
		s.Names = listed(m.long(1, 16), m.goodName)
		s.Rows = [][]api.Expr{row(len(s.Names))}
		s.Where = m.where()
	case api.StDelete:
		s.Where = m.where()
	case api.StBegin:
		s.Level = 1 + m.Intn(4)
	}
	return s
}

func (m *maker) item() api.Item {
	i := api.Item{Agg: m.Intn(5), As: pick(m, "", m.name())}
	if i.Agg != api.AgCount || m.one(2) {
		i.Of = m.goodExpr()
	}
	return i
}

// script writes commands in any layout.
func (m *maker) script(cs ...api.Command) string {
	var words []string
	for _, c := range cs {
		words = append(append(words, m.commandWords(c)...), ";")
	}
	return m.laid(words)
}

// laid puts gaps between words: blanks, comments, or nothing, where that changes nothing.
func (m *maker) laid(words []string) string {
	gap := func() string {
		return pick(m, " ", " ", " ", "  ", "\n", "\t", "\r", "/**/", "/* ' \" */", "-- ; '\n", " --\n ", "/*/ */")
	}
	var out strings.Builder
	for i, word := range words {
		if out.WriteString(word); i+1 < len(words) && (!m.one(2) || !apart(word, words[i+1])) {
			between := gap()
			if !apart(word, between) {
				between = " " + between
			}
			out.WriteString(between)
		}
	}
	if m.one(4) {
		return gap() + out.String() + pick(m, " ", "--", "\n", "/* */")
	}
	return out.String()
}

// apart tells whether two words are the same two tokens without a gap between them.
func apart(a, b string) bool {
	one, two := a[len(a)-1], b[0]
	word := func(b byte) bool { return wordForm.MatchString("_"+string([]byte{b})) && isWordByte(b) }
	switch {
	case word(one) && word(two):
		return false
	case one == '\'' && two == '\'', one == '"' && two == '"', (one == 'x' || one == 'X') && two == '\'':
		return false
	case one == '-' && two == '-', one == '/' && two == '*', one == '<' && (two == '>' || two == '='), one == '>' && two == '=':
		return false
	}
	return true
}

func isWordByte(b byte) bool {
	return b >= '0' && b <= '9' || b >= 'a' && b <= 'z' || b >= 'A' && b <= 'Z' || b == '_'
}

// cased writes a word in any letters, small and great.
func (m *maker) cased(word string) string {
	if m.one(2) {
		return word
	}
	bytes := []byte(word)
	for i := range bytes {
		if m.one(2) {
			bytes[i] = strings.ToLower(word)[i]
		} else {
			bytes[i] = strings.ToUpper(word)[i]
		}
	}
	return string(bytes)
}

// nameWord writes a name in any way in which it is read as itself.
func (m *maker) nameWord(name string) string {
	if text := plainName(name); text == name && !m.one(4) {
		return m.cased(name)
	}
	return `"` + strings.ReplaceAll(name, `"`, `""`) + `"`
}

func (m *maker) textWord(text string) string {
	if m.one(2) {
		return plainText(text)
	}
	return pick(m, "x", "X") + "'" + m.cased(fmt.Sprintf("%x", text)) + "'"
}

func (m *maker) numberWord(n int64) string { return many(m.Intn(2)*m.Intn(3), "0") + fmt.Sprint(n) }

// keyWords writes keywords.
func (m *maker) keyWords(text string) (words []string) {
	for _, word := range strings.Fields(text) {
		words = append(words, m.cased(word))
	}
	return words
}

// between writes lists of words with commas between them.
func between(lists ...[]string) (words []string) {
	for i, l := range lists {
		if i > 0 {
			words = append(words, ",")
		}
		words = append(words, l...)
	}
	return words
}

func join(lists ...[]string) []string { return slices.Concat(lists...) }

func all[T any](list []T, write func(T) []string) (lists [][]string) {
	for _, x := range list {
		lists = append(lists, write(x))
	}
	return lists
}

func (m *maker) commandWords(c api.Command) []string {
	switch c.Kind {
	case api.CmStmt:
		return join([]string{"@", m.numberWord(int64(c.Who))}, m.statementWords(c.Stmt))
	case api.CmPlay:
		return join(m.keyWords("PLAY"), []string{m.textWord(c.Bytes)})
	case api.CmTick, api.CmMerge, api.CmCut:
		return join(m.keyWords(map[int]string{api.CmTick: "TICK", api.CmMerge: "MERGE", api.CmCut: "CUT"}[c.Kind]), []string{m.numberWord(int64(c.Num))})
	case api.CmCrash:
		return join(m.keyWords("CRASH"), between(all(c.Keep, func(n int) []string { return []string{m.numberWord(int64(n))} })...))
	}
	return m.keyWords(strings.TrimSuffix(plainPrint(c), ";\n"))
}

func (m *maker) names(list []string) []string {
	return join([]string{"("}, between(all(list, func(s string) []string { return []string{m.nameWord(s)} })...), []string{")"})
}

func (m *maker) whereWords(e api.Expr) []string {
	if len(e) == 0 {
		return nil
	}
	return join(m.keyWords("WHERE"), m.exprWords(e))
}

func (m *maker) statementWords(s api.Stmt) []string {
	table := func() []string { return []string{m.nameWord(s.Table)} }
	switch s.Kind {
	case api.StCreate:
		cols := all(s.Cols, func(c api.ColDef) []string {
			words := join([]string{m.nameWord(c.Name)}, m.keyWords([]string{"", "BOOL", "INT", "TEXT"}[c.Type]))
			if c.NotNull {
				words = join(words, m.keyWords("NOT NULL"))
			}
			return words
		})
		return join(m.keyWords("CREATE TABLE"), table(), []string{"("}, between(cols...), []string{","}, m.keyWords("PRIMARY KEY"), m.names(s.Key), []string{")"})
	case api.StDrop:
		return join(m.keyWords("DROP TABLE"), table())
	case api.StInsert:
		words := join(m.keyWords("INSERT INTO"), table())
		if len(s.Names) > 0 {
			words = join(words, m.names(s.Names))
		}
		rows := all(s.Rows, func(row []api.Expr) []string {
			return join([]string{"("}, between(all(row, m.exprWords)...), []string{")"})
		})
		return join(words, m.keyWords("VALUES"), between(rows...))
	case api.StSelect:
		return m.queryWords(s, table())
	case api.StUpdate:
		var sets [][]string
		for i, name := range s.Names {
			sets = append(sets, join([]string{m.nameWord(name), "="}, m.exprWords(s.Rows[0][i])))
		}
		return join(m.keyWords("UPDATE"), table(), m.keyWords("SET"), between(sets...), m.whereWords(s.Where))
	case api.StDelete:
		return join(m.keyWords("DELETE FROM"), table(), m.whereWords(s.Where))
	case api.StBegin:
		if s.Level == api.Snapshot && m.one(2) {
			return m.keyWords("BEGIN")
		}
	}
	return m.keyWords(plainStatementText(s))
}

func (m *maker) queryWords(s api.Stmt, table []string) []string {
	items := []string{"*"}
	if len(s.Items) > 0 {
		items = between(all(s.Items, m.itemWords)...)
	}
	words := join(m.keyWords("SELECT"), items, m.keyWords("FROM"), table, m.whereWords(s.Where))
	if len(s.Order) > 0 {
		words = join(words, m.keyWords("ORDER BY"), between(all(s.Order, func(o api.Sort) []string {
			way := pick(m, "", "ASC")
			if o.Desc {
				way = "DESC"
			}
			return join([]string{m.nameWord(o.Col)}, m.keyWords(way))
		})...))
	}
	if s.Limit >= 0 {
		words = join(words, m.keyWords("LIMIT"), []string{m.numberWord(s.Limit)})
	}
	return words
}

func (m *maker) itemWords(i api.Item) []string {
	words := []string{"*"}
	if len(i.Of) > 0 {
		words = m.exprWords(i.Of)
	}
	if i.Agg != api.AgNone {
		words = join(m.keyWords([]string{"", "COUNT", "SUM", "MIN", "MAX"}[i.Agg]), []string{"("}, words, []string{")"})
	}
	if i.As != "" {
		words = join(words, m.keyWords("AS"), []string{m.nameWord(i.As)})
	}
	return words
}

// exprWords writes an expression in any way in which it is read as itself.
func (m *maker) exprWords(e api.Expr) []string {
	t, _, _ := plainTreeOf(e)
	words, _ := m.treeWords(t)
	return words
}

// treeWords tells the level of what it has written too.
func (m *maker) treeWords(t plainTree) ([]string, int) {
	if t.isDenial() && !m.one(3) {
		words, level := m.tested(t.of[0], m.keyWords("NOT"))
		return words, level
	}
	of := func(i int) []string { return m.placed(t, i) }
	switch t.Op {
	case api.ExInt:
		return []string{m.numberWord(t.Num)}, 9
	case api.ExText:
		return []string{m.textWord(t.Text)}, 9
	case api.ExNull, api.ExTrue, api.ExFalse:
		return m.keyWords(t.print()), 9
	case api.ExCol:
		return []string{m.nameWord(t.Text)}, 9
	case api.ExNeg:
		return join([]string{"-"}, of(0)), 8
	case api.ExNot:
		return join(m.keyWords("NOT"), of(0)), 3
	case api.ExIsNull:
		return join(of(0), m.keyWords("IS NULL")), 4
	case api.ExNotNull:
		return join(of(0), m.keyWords("IS NOT NULL")), 4
	case api.ExBetween, api.ExIn, api.ExLike:
		return m.tested(t, nil)
	case api.ExCase:
		return m.caseWords(t), 9
	case api.ExCall:
		return join([]string{m.nameWord(t.Text), "("}, m.rest(t, 0), []string{")"}), 9
	}
	sign := m.keyWords(infixes()[t.Op])
	if t.Op == api.ExNe {
		sign = []string{pick(m, "<>", "!=")}
	}
	return join(of(0), sign, of(1)), t.level()
}

// tested writes a test that may have a NOT.
func (m *maker) tested(t plainTree, not []string) ([]string, int) {
	words := join(m.placed(t, 0), not)
	switch t.Op {
	case api.ExBetween:
		return join(words, m.keyWords("BETWEEN"), m.placed(t, 1), m.keyWords("AND"), m.placed(t, 2)), 4
	case api.ExIn:
		return join(words, m.keyWords("IN"), []string{"("}, m.rest(t, 1), []string{")"}), 4
	}
	return join(words, m.keyWords("LIKE"), m.placed(t, 1)), 4
}

// rest writes the operands from one on, with commas.
func (m *maker) rest(t plainTree, from int) []string {
	var lists [][]string
	for i := from; i < len(t.of); i++ {
		lists = append(lists, m.placed(t, i))
	}
	return between(lists...)
}

func (m *maker) caseWords(t plainTree) []string {
	words := m.keyWords("CASE")
	last := len(t.of) - 1
	for i := 0; i < last; i += 2 {
		words = join(words, m.keyWords("WHEN"), m.placed(t, i), m.keyWords("THEN"), m.placed(t, i+1))
	}
	if t.of[last].Op != api.ExNull || m.one(2) {
		words = join(words, m.keyWords("ELSE"), m.placed(t, last))
	}
	return join(words, m.keyWords("END"))
}

// placed writes an operand, in brackets where it needs them, and elsewhere too.
func (m *maker) placed(t plainTree, i int) []string {
	words, level := m.treeWords(t.of[i])
	if level < t.asks(i) || m.one(9) {
		return join([]string{"("}, words, []string{")"})
	}
	return words
}
