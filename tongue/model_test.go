package tongue_test

import (
	"fmt"
	"reflect"
	"slices"
	"strings"
	"sync/atomic"
	"testing"

	"strata/api"
	"strata/tongue"
)

// met counts how often something was met; too seldom is a fault of the test.
type met [200]atomic.Int64

func (m *met) atLeast(t *testing.T, n int64, codes ...api.Errno) {
	t.Helper()
	for _, code := range codes {
		if got := m[code].Load(); got < n {
			t.Errorf("the answer %d was met %d times", code, got)
		}
	}
}

// P15.1, P15.2: on made-up texts, of pieces that are somewhat tokens.
func TestLexAsPlain(t *testing.T) {
	var seen met
	pieces := []string{" ", "\n", "\t", "\r", "\v", "--", "-", "/*", "*/", "*", "/", "'", "''", "\"", "\"\"", "x'", "X'", "x", "X", "4a", "4", "g", "0", "9223372036854775807", "9223372036854775808", "00", "select", "SeLeCt", "a", "_", "a1", "Z9", "(", ")", ",", ";", "+", "%", "=", "<", ">", "!", "|", "||", "!=", "<>", "<=", ">=", "@", "#", ".", "\x00", "\x80", "ä", "\xff", "[", "\\", "`", "{", "~", "^", "&", "?", "$", ":", "'ab'", "\"A b\"", "x'4A'", "x'4', ", "12", "/**/", many(31, "n"), many(32, "n"), many(33, "n"), many(32, "\"\""), many(33, "\"\"")}
	inBatches(t, 300000, func(m *maker) string {
		var b strings.Builder
		for range m.Intn(pick(m, 4, 12)) {
			b.WriteString(pick(m, pieces...))
		}
		text := b.String()
		if m.one(20) {
			quote := pick(m, "'", "\"", "x'")
			text += quote + many(pick(m, 4095, 4096, 4097, 8190, 8191, 8192, 8193, 8194), pick(m, "a", "0", "''")) + pick(m, "", quote, "'")
		}
		tokens, e, at := tongue.Lex(text)
		right, code, place := plainLex(text)
		seen[code].Add(1)
		if !slices.Equal(tokens, right) || e != code || at != place {
			return fmt.Sprintf("P15.1: Lex(%q) = %+v, %d, %d, want %+v, %d, %d", text, tokens, e, at, right, code, place)
		}
		return ""
	})
	seen.atLeast(t, 1000, api.OK, api.ErrChar, api.ErrUnclosed, api.ErrNumeral, api.ErrIdent, api.ErrHex, api.ErrLong)
}

// The grammar's text was taken apart as it is meant.
func TestGrammarOfTheTest(t *testing.T) {
	g := grammarOf(grammarText)
	for _, x := range []struct {
		text, start string
		wrong       int
	}{
		{"", "script", -1}, {"DRAIN;", "script", -1}, {"DRAIN", "script", 1}, {"a + b * c", "expr", -1}, {"a = b = c", "expr", 3}, {"", "expr", 0}, {"@ 1 BEGIN READ COMMITTED; CRASH 1, 2;", "script", -1}, {"@ 1 BEGIN COMMITTED;", "script", 3},
		{"@1 CREATE TABLE t (a INT NOT NULL, b TEXT, PRIMARY KEY (a));", "script", -1}, {"@1 CREATE TABLE t (a INT);", "script", 8}, {"a NOT IN (1, 2) AND NOT b IS NOT NULL", "expr", -1}, {"a NOT NULL", "expr", 2},
	} {
		tokens, e, _ := plainLex(x.text)
		want(t, x.text, e, api.OK)
		want(t, x.text, g.recognizer(x.start).wrong(tokens), x.wrong)
	}
	var words []string
	for _, tok := range g.tokens {
		if tok.Kind == api.TokKey {
			words = append(words, tok.Text)
		}
	}
	slices.Sort(words)
	want(t, "the grammar's keywords", strings.Join(words, " "), plainKeywords)
}

// readsAsPlain holds the error of tokens, written as a text, against the right one.
func readsAsPlain(r *recognizer, words []string, script bool) (api.Errno, string) {
	text := strings.Join(words, " ")
	tokens, e, _ := plainLex(text)
	if e != api.OK || len(tokens) != len(words)+1 {
		return 0, fmt.Sprintf("the test's words %q are no tokens", words)
	}
	code, place := plainFault(tokens, r.wrong(tokens), script)
	var got api.Errno
	var at int
	if script {
		_, got, at = tongue.Parse(text)
	} else {
		_, got, at = tongue.ParseExpr(text)
	}
	if got != code || at != place {
		return 0, fmt.Sprintf("P15.6: %.900q: %d, %d, want %d, %d", text, got, at, code, place)
	}
	return code, ""
}

// samples are scripts that have every row of the grammar in them, in words.
var samples = []string{
	"DRAIN ; FLUSH ; SYNC ; CHECKPOINT ; RESTART ; CHECK ;", "PLAY 'a' ; PLAY x'00' ;", "TICK 1 ; MERGE 2 ; CUT 3 ;", "CRASH ; CRASH 1 ; CRASH 1 , 2 , 3 ;",
	"@ 1 CREATE TABLE t ( a INT , b TEXT NOT NULL , c BOOL , PRIMARY KEY ( a , b ) ) ;", "@ 1 DROP TABLE t ;", "@ 1 INSERT INTO t VALUES ( 1 , 'a' ) , ( 2 , NULL ) ;", "@ 1 INSERT INTO t ( a , b ) VALUES ( 1 , b ) ;",
	"@ 1 SELECT * FROM t ;", "@ 1 SELECT * FROM t WHERE a ORDER BY a , b ASC , c DESC LIMIT 5 ;", "@ 1 SELECT a , b AS c , COUNT ( * ) , COUNT ( a ) AS d , SUM ( a + 1 ) , MIN ( a ) , MAX ( b ) FROM t ;", "@ 1 SELECT a FROM t LIMIT 1 ;", "@ 1 SELECT a FROM t ORDER BY a ;",
	"@ 1 UPDATE t SET a = 1 , b = a = b WHERE c ;", "@ 1 UPDATE t SET a = 1 ;", "@ 1 DELETE FROM t ;", "@ 1 DELETE FROM t WHERE a = 1 ;", "@ 1 BEGIN ; @ 1 BEGIN SNAPSHOT ; @ 1 COMMIT ;", "@ 1 BEGIN READ COMMITTED ; @ 2 ROLLBACK ;", "@ 1 BEGIN REPEATABLE READ ; @ 1 BEGIN SERIALIZABLE ;",
}

// sampleExprs are expressions likewise.
var sampleExprs = []string{
	"1", "a", "'a'", "NULL", "TRUE OR FALSE", "a OR b AND NOT c OR NOT NOT d", "a = b", "a <> b AND c < d", "a <= b OR c > d", "a >= b", "a IS NULL", "a IS NOT NULL AND b", "a BETWEEN 1 AND 2 AND b", "a NOT BETWEEN 1 AND 2 OR b", "a IN ( 1 , 2 , b OR c )", "a NOT IN ( 1 )", "a LIKE b", "a NOT LIKE 'b' || c",
	"a || b || c", "a + b - c + d", "a * b / c % d", "- a", "- - 1 * - b", "( a )", "( a OR b ) AND ( ( c ) )", "abs ( a )", "coalesce ( a , b , 1 )", "CASE WHEN a THEN b END", "CASE WHEN a THEN b WHEN c THEN d ELSE e END", "NOT a = - b + c * d", "CASE WHEN CASE WHEN a THEN b END THEN c ELSE - d END IS NULL", "substr ( a , 1 , length ( b ) )",
}

// everyWord is one of each token that there is.
func everyWord() []string {
	return append(append(strings.Fields(plainKeywords), strings.Fields(plainSigns)...), "a", "abs", "\"NOT\"", "foo", "7", "'('", "x'2c'")
}

// P15.6: every token left out of, put into and put in the place of another one in every place of scripts that have every row of the grammar; and every script's end at every token.
func TestEveryTokenEverywhere(t *testing.T) {
	var seen met
	type sample struct {
		text   string
		script bool
	}
	var list []sample
	for _, text := range samples {
		list = append(list, sample{text, true})
	}
	for _, text := range sampleExprs {
		list = append(list, sample{text, false}, sample{"@ 1 SELECT " + text + " FROM t ;", true})
	}
	g := grammarOf(grammarText)
	at := atomic.Int64{}
	inBatches(t, len(list), func(*maker) string {
		s := list[at.Add(1)-1]
		words := strings.Fields(s.text)
		start := "expr"
		if s.script {
			start = "script"
		}
		r := g.recognizer(start)
		try := func(fed int, words []string) string {
			r.back(fed)
			code, fault := readsAsPlain(r, words, s.script)
			seen[code].Add(1)
			return fault
		}
		for i := 0; i <= len(words); i++ {
			tokens, _, _ := plainLex(strings.Join(words, " "))
			r.back(0)
			for _, tok := range tokens[:i] {
				if !r.feed(tok) {
					return "the sample is wrong: " + s.text
				}
			}
			if fault := try(i, words[:i]); fault != "" {
				return fault
			}
			if i < len(words) {
				if fault := try(i, slices.Delete(slices.Clone(words), i, i+1)); fault != "" {
					return fault
				}
			}
			for _, word := range everyWord() {
				if fault := try(i, slices.Insert(slices.Clone(words), i, word)); fault != "" {
					return fault
				}
				if i < len(words) {
					if fault := try(i, slices.Replace(slices.Clone(words), i, i+1, word)); fault != "" {
						return fault
					}
				}
			}
		}
		return ""
	})
	seen.atLeast(t, 100, api.OK, api.ErrSyntax, api.ErrFunction)
}

// wordsOf gives a script's tokens, each as it is written there; none, if the script is too long.
func wordsOf(text string) (words []string) {
	tokens, e, _ := plainLex(text)
	if e != api.OK {
		return nil
	}
	for i, t := range tokens[:len(tokens)-1] {
		piece := text[t.At:tokens[i+1].At]
		if _, long, _ := plainToken(piece); long > 0 {
			words = append(words, piece[:long])
		}
	}
	return words
}

// spoiled changes some of a script's words.
func (m *maker) spoiled(words []string) []string {
	words = slices.Clone(words)
	for range m.Intn(4) {
		i := m.Intn(len(words) + 1)
		j := min(len(words), i+m.Intn(6))
		switch m.Intn(8) {
		case 0:
			words = slices.Delete(words, i, j)
		case 1:
			words = slices.Insert(words, i, pick(m, everyWord()...))
		case 2:
			words = slices.Insert(words, i, slices.Clone(words[i:j])...)
		case 3, 4:
			words = m.lengthened(words)
		default:
			words = m.nested(words)
		}
	}
	return words
}

// lengthened repeats an entry of a list, or a WHEN, so often that there are about as many as may be.
func (m *maker) lengthened(words []string) []string {
	var starts []int
	for i, word := range words {
		if word == "," || strings.EqualFold(word, "WHEN") {
			starts = append(starts, i)
		}
	}
	if len(starts) == 0 {
		return words
	}
	start := pick(m, starts...)
	stops := strings.Fields(", ; ) FROM WHERE ORDER LIMIT END ELSE WHEN AS")
	end, open := start+1, 0
	for ; end < len(words); end++ {
		if open == 0 && slices.Contains(stops, strings.ToUpper(words[end])) {
			break
		}
		open += strings.Count("(", words[end]) - strings.Count(")", words[end])
	}
	entry := slices.Clone(words[start:end])
	for range pick(m, 1, 12, 13, 14, 15, 16, 60, 61, 62, 63) {
		if len(words) < 1500 {
			words = slices.Insert(words, start, entry...)
		}
	}
	return words
}

// nested puts an operand into nestings, or into a call.
func (m *maker) nested(words []string) []string {
	var operands []int
	for i, word := range words {
		if strings.Contains("abcdtx", word) || isDigits(word) {
			operands = append(operands, i)
		}
	}
	if len(operands) == 0 {
		return words
	}
	place := pick(m, operands...)
	inner := words[place]
	for range pick(m, 1, 2, 29, 30, 31, 32, 33) {
		inner = fmt.Sprintf(pick(m, "( %s )", "( %s )", "( %s )", "- ( %s )", "( a IN ( 1 , %s ) )", "( NOT %s )", "CASE WHEN %s THEN b END", "abs ( %s )", "- %s"), inner)
	}
	if m.one(3) {
		inner = fmt.Sprintf(pick(m, "foo ( %s )", "abs ( a , %s )", "substr ( %s , 1 )", "nullif ( %s )", "coalesce ( %s , 2 , 3 )", "least ( %s )", "\"Abs\" ( %s )", "length ( 1 , %s , 3 )", "nullif ( %s , 2 )"), inner)
	}
	return slices.Replace(words, place, place+1, strings.Fields(inner)...)
}

func isDigits(word string) bool { return digitsForm.FindString(word) == word }

// P15.6: on made-up scripts and expressions that are mostly no longer ones; what is one is valid, and its print is read as the same.
func TestParseAsPlain(t *testing.T) {
	var seen met
	g := grammarOf(grammarText)
	inBatches(t, 12000, func(m *maker) string {
		script := m.one(2)
		var words []string
		start := "expr"
		if script {
			start = "script"
			words = wordsOf(m.script(listed(1+m.Intn(3), m.command)...))
		} else {
			words = wordsOf(m.laid(m.exprWords(m.goodExpr())))
		}
		if len(words) > 300 {
			return ""
		}
		if words = m.spoiled(words); len(strings.Join(words, " ")) > api.MaxScript {
			return ""
		}
		code, fault := readsAsPlain(g.recognizer(start), words, script)
		seen[code].Add(1)
		if fault != "" || code != api.OK {
			return fault
		}
		if !script {
			e, _, _ := tongue.ParseExpr(strings.Join(words, " "))
			return exprAgain(e)
		}
		cs, _, _ := tongue.Parse(strings.Join(words, " "))
		return scriptAgain(cs)
	})
	seen.atLeast(t, 150, api.OK, api.ErrSyntax, api.ErrMany, api.ErrDeep, api.ErrFunction)
}

// same holds lists against each other, in which nil and empty are the same.
func same(a, b any) bool { return fmt.Sprintf("%+v", a) == fmt.Sprintf("%+v", b) }

// exprAgain prints what was read, and reads it again.
func exprAgain(e api.Expr) string {
	text, err := tongue.PrintExpr(e)
	right, good := plainExpr(e)
	again, code, at := tongue.ParseExpr(text)
	if err != api.OK || !good || text != right || !same(again, e) || code != api.OK || at != 0 {
		return fmt.Sprintf("P15.9: %+v is printed as %q, %d, want %q, %v, and read as %+v, %d, %d", e, text, err, right, good, again, code, at)
	}
	return ""
}

// scriptAgain does so with commands.
func scriptAgain(cs []api.Command) string {
	right := ""
	for _, c := range cs {
		if !tongue.Valid(c) || !plainValid(c) {
			return fmt.Sprintf("P15.7: %+v is not valid", c)
		}
		right += plainPrint(c)
	}
	text, e := tongue.Print(cs...)
	if e != api.OK || text != right {
		return fmt.Sprintf("P15.8: %+v is printed as %q, %d, want %q", cs, text, e, right)
	}
	if len(text) > api.MaxScript {
		return ""
	}
	again, e, at := tongue.Parse(text)
	if e != api.OK || at != 0 || !same(again, cs) {
		return fmt.Sprintf("P15.8: %q is read as %+v, %d, %d, want %+v", text, again, e, at, cs)
	}
	return ""
}

// P15.3, P15.4: made-up commands and expressions, written in any way, are read as they are; P15.8, P15.9: their print too.
func TestAnyLayout(t *testing.T) {
	var long atomic.Int64
	inBatches(t, 8000, func(m *maker) string {
		e := m.goodExpr()
		text := m.laid(m.exprWords(e))
		if got, code, at := tongue.ParseExpr(text); !same(got, e) || code != api.OK || at != 0 {
			return fmt.Sprintf("P15.4: ParseExpr(%q) = %+v, %d, %d, want %+v", text, got, code, at, e)
		}
		if fault := exprAgain(e); fault != "" {
			return fault
		}
		cs := listed(m.Intn(4), m.command)
		if text = m.script(cs...); len(text) > api.MaxScript {
			long.Add(1)
			return scriptAgain(cs)
		}
		if got, code, at := tongue.Parse(text); !same(got, cs) || code != api.OK || at != 0 {
			return fmt.Sprintf("P15.3: Parse(%q) = %+v, %d, %d, want %+v", text, got, code, at, cs)
		}
		return scriptAgain(cs)
	})
	if long.Load() > 1600 {
		t.Errorf("%d scripts were too long", long.Load())
	}
}

// changed changes some fields of what was made, anywhere within.
func (m *maker) changed(v reflect.Value) {
	switch v.Kind() {
	case reflect.Struct:
		m.changed(v.Field(m.Intn(v.NumField())))
	case reflect.Slice:
		if v.Len() == 0 || m.one(3) {
			n := pick(m, 0, 1, 2, 15, 16, 17, 64, 65, v.Len(), v.Len()+1, max(0, v.Len()-1))
			list := reflect.MakeSlice(v.Type(), n, n)
			for i := range n {
				if v.Len() > 0 {
					list.Index(i).Set(v.Index(i % v.Len()))
				}
			}
			v.Set(list)
			return
		}
		m.changed(v.Index(m.Intn(v.Len())))
	case reflect.Bool:
		v.SetBool(!v.Bool())
	case reflect.String:
		v.SetString(pick(m, m.name(), m.text(), "", "abs", "substr", "coalesce", many(33, "n"), many(32, "n"), many(4097, "t"), many(4096, "t")))
	default:
		v.SetInt(int64(pick(m, strange()...)))
		if m.one(2) {
			v.SetInt(int64(m.Intn(5)))
		}
	}
}

// copied copies a command with all its lists.
func copied(c api.Command) api.Command {
	c.Keep = slices.Clone(c.Keep)
	s := &c.Stmt
	s.Cols, s.Key, s.Names, s.Items, s.Where, s.Order = slices.Clone(s.Cols), slices.Clone(s.Key), slices.Clone(s.Names), slices.Clone(s.Items), slices.Clone(s.Where), slices.Clone(s.Order)
	for i := range s.Items {
		s.Items[i].Of = slices.Clone(s.Items[i].Of)
	}
	s.Rows = slices.Clone(s.Rows)
	for i := range s.Rows {
		s.Rows[i] = slices.Clone(s.Rows[i])
		for k := range s.Rows[i] {
			s.Rows[i][k] = slices.Clone(s.Rows[i][k])
		}
	}
	return c
}

// P15.7: made-up commands with some fields changed: whether they are valid; and what is valid is printed so that it is read as it is.
func TestValidAsPlain(t *testing.T) {
	var good, bad atomic.Int64
	inBatches(t, 60000, func(m *maker) string {
		c := copied(m.command())
		for range 1 + m.Intn(2) {
			m.changed(reflect.ValueOf(&c).Elem())
		}
		right := plainValid(c)
		if got := tongue.Valid(c); got != right {
			return fmt.Sprintf("P15.7: Valid(%+v) = %v, want %v", c, got, right)
		}
		if right {
			good.Add(1)
			return scriptAgain([]api.Command{c})
		}
		bad.Add(1)
		if text, e := tongue.Print(m.command(), c); text != "" || e != api.ErrTree {
			return fmt.Sprintf("P15.8: Print(%+v) = %q, %d", c, text, e)
		}
		return ""
	})
	if good.Load() < 5000 || bad.Load() < 20000 {
		t.Errorf("%d were valid, %d not", good.Load(), bad.Load())
	}
}

// P15.7: made-up lists of nodes, some of them expressions.
func TestExprsAsPlain(t *testing.T) {
	var good, bad atomic.Int64
	inBatches(t, 40000, func(m *maker) string {
		e := slices.Clone(m.expr(1 + m.Intn(pick(m, 4, 40, 150))))
		for range m.Intn(2) {
			switch v := reflect.ValueOf(&e).Elem(); m.Intn(4) {
			case 0:
				i := m.Intn(len(e))
				e = slices.Delete(e, i, i+1)
			case 1:
				e = slices.Insert(e, m.Intn(len(e)+1), pick(m, m.leaf(), op(m.Intn(31), m.Intn(4)), call(pick(m, "abs", "least", "foo", ""), m.Intn(3))))
			default:
				m.changed(v.Index(m.Intn(len(e))))
			}
		}
		for range m.Intn(2) * m.Intn(40) {
			e = append(e, op(pick(m, api.ExNeg, api.ExNot), 1))
		}
		right, is := plainExpr(e)
		if !is {
			right = ""
		}
		text, code := tongue.PrintExpr(e)
		if text != right || is != (code == api.OK) || !is && code != api.ErrTree {
			return fmt.Sprintf("P15.9: PrintExpr(%+v) = %q, %d, want %q, %v", e, text, code, right, is)
		}
		if !is {
			bad.Add(1)
			return ""
		}
		good.Add(1)
		return exprAgain(e)
	})
	if good.Load() < 5000 || bad.Load() < 5000 {
		t.Errorf("%d were expressions, %d not", good.Load(), bad.Load())
	}
}
