package tongue_test

import (
	"fmt"
	"reflect"
	"runtime"
	"slices"
	"strings"
	"sync"
	"testing"
	"time"

	"strata/api"
	"strata/tongue"
)

// wild makes up anything that may be handed in, of a type.
func (m *maker) wild(v reflect.Value, depth int) {
	switch v.Kind() {
	case reflect.Struct:
		for i := range v.NumField() {
			if m.one(2) {
				m.wild(v.Field(i), depth)
			}
		}
	case reflect.Slice:
		n := pick(m, 0, 0, 1, 2, 3)
		if m.one(10 << depth) {
			n = pick(m, 16, 17, 64, 65)
		}
		list := reflect.MakeSlice(v.Type(), n, n+m.Intn(3))
		for i := range n {
			m.wild(list.Index(i), depth+1)
		}
		v.Set(list)
	case reflect.Bool:
		v.SetBool(m.one(2))
	case reflect.String:
		v.SetString(pick(m, "", "a", "abs", "\x00", "\xff", m.name(), m.text(), many(33, "n"), many(5000, "t")))
	default:
		v.SetInt(int64(pick(m, strange()...)))
		if !m.one(4) {
			v.SetInt(int64(m.Intn(pick(m, 3, 13, 30))))
		}
	}
}

func (m *maker) wildCommand() (c api.Command) {
	m.wild(reflect.ValueOf(&c).Elem(), 0)
	return c
}

func (m *maker) wildExpr() (e api.Expr) {
	m.wild(reflect.ValueOf(&e).Elem(), 0)
	return e
}

// wildText is any bytes, or somewhat a script.
func (m *maker) wildText() string {
	switch m.Intn(4) {
	case 0:
		bytes := make([]byte, m.Intn(30))
		m.Read(bytes)
		return string(bytes)
	case 1:
		words := listed(m.Intn(40), func() string { return pick(m, everyWord()...) })
		return strings.Join(words, pick(m, " ", "", "\n"))
	}
	text := []byte(m.script(listed(m.Intn(3), m.command)...))
	for range m.Intn(5) {
		if n := len(text); n > 0 {
			text[m.Intn(n)] = pick(m, byte(m.Intn(256)), ' ', '(', '\'', '"', '-')
		}
	}
	return string(text[:len(text)-m.Intn(len(text)+1)/pick(m, 1, 10, 1000000)])
}

// P0.1: no call panics, whatever it is given, and the answers are as P15.6 to P15.9 have them.
func TestNoPanics(t *testing.T) {
	var codes met
	inBatches(t, 16000, func(m *maker) string {
		text := m.wildText()
		tokens, e, at := tongue.Lex(text)
		codes[e].Add(1)
		if e == api.OK != (len(tokens) > 0) || e == api.OK && at != 0 || at < 0 || at > len(text) {
			return fmt.Sprintf("P0.1: Lex(%q) = %v, %d, %d", text, tokens, e, at)
		}
		cs, e, at := tongue.Parse(text)
		codes[e].Add(1)
		if e != api.OK && cs != nil || e == api.OK && at != 0 || at < 0 || at > len(text) {
			return fmt.Sprintf("P0.1: Parse(%q) = %v, %d, %d", text, cs, e, at)
		}
		if e == api.OK {
			if fault := scriptAgain(cs); fault != "" {
				return fault
			}
		}
		x, e, at := tongue.ParseExpr(text)
		if e != api.OK && x != nil || e == api.OK && (at != 0 || len(x) == 0) || at < 0 || at > len(text) {
			return fmt.Sprintf("P0.1: ParseExpr(%q) = %v, %d, %d", text, x, e, at)
		}
		c, list := m.wildCommand(), m.wildExpr()
		if got, right := tongue.Valid(c), plainValid(c); got != right {
			return fmt.Sprintf("P15.7: Valid(%+v) = %v", c, got)
		}
		print, e := tongue.Print(c, c)
		if right := plainValid(c); right != (e == api.OK) || !right && (print != "" || e != api.ErrTree) {
			return fmt.Sprintf("P15.8: Print(%+v) = %q, %d", c, print, e)
		}
		right, good := plainExpr(list)
		if print, e := tongue.PrintExpr(list); good != (e == api.OK) || good && print != right || !good && (print != "" || e != api.ErrTree) {
			return fmt.Sprintf("P15.9: PrintExpr(%+v) = %q, %d", list, print, e)
		}
		return ""
	})
	codes.atLeast(t, 100, api.OK, api.ErrChar, api.ErrUnclosed, api.ErrNumeral, api.ErrSyntax, api.ErrHex)
}

// P0.1: lists of any length are answered: those that lean to the left are as deep as they are long.
func TestHugeLists(t *testing.T) {
	const n = 300000
	sum, minus := expr(num(1)), expr(num(1))
	for i := range n {
		sum = append(sum, num(2), op(api.ExAdd+i%5, 2))
		minus = append(minus, op(api.ExNeg+i%2, 1))
	}
	chain := expr(num(1))
	for range n {
		chain = append(chain, num(2), op(api.ExSub, 2))
	}
	print, e := tongue.PrintExpr(chain)
	want(t, "P15.9: a long chain", []any{print == "1"+many(n, " - 2"), e}, []any{true, api.OK})
	for what, list := range map[string]api.Expr{"brackets": sum, "prefixes": minus, "no operators": slices.Repeat(expr(num(1)), n), "no operands": slices.Repeat(expr(op(api.ExAdd, 2)), n), "operands left": append(slices.Repeat(expr(num(1)), n), op(api.ExAdd, 2))} {
		print, e = tongue.PrintExpr(list)
		want(t, "P0.1: "+what, []any{print, e}, []any{"", api.ErrTree})
		want(t, "P0.1: "+what, tongue.Valid(statement(api.Stmt{Kind: api.StDelete, Table: "t", Where: list})), false)
	}
	print, e = tongue.PrintExpr(append(slices.Repeat(expr(num(1)), n), slices.Repeat(expr(op(api.ExSub, 2)), n-1)...))
	want(t, "P0.1: brackets on the right", []any{print, e}, []any{"", api.ErrTree})
	for _, text := range []string{"(", "-", "NOT ", "CASE WHEN ", "abs(", "a IN (", "@", "1+", "a,", "'", "\"", "--", "/*", "x'"} {
		whole := many(api.MaxScript/len(text), text)
		tongue.Lex(whole)
		tongue.Parse(whole)
		tongue.Parse("@1 SELECT " + whole[:60000])
		tongue.ParseExpr(whole)
	}
}

// roomy copies a thing with room behind each list, which must stay empty.
func roomy(v reflect.Value) reflect.Value {
	switch v.Kind() {
	case reflect.Struct:
		c := reflect.New(v.Type()).Elem()
		for i := range v.NumField() {
			c.Field(i).Set(roomy(v.Field(i)))
		}
		return c
	case reflect.Slice:
		c := reflect.MakeSlice(v.Type(), v.Len()+3, v.Len()+3)
		for i := range v.Len() {
			c.Index(i).Set(roomy(v.Index(i)))
		}
		return c.Slice(0, v.Len())
	}
	return v
}

// clean tells whether the room behind each list is still empty.
func clean(v reflect.Value) bool {
	switch v.Kind() {
	case reflect.Struct:
		for i := range v.NumField() {
			if !clean(v.Field(i)) {
				return false
			}
		}
	case reflect.Slice:
		full := v.Slice(0, v.Cap())
		for i := range full.Len() {
			if i >= v.Len() && !full.Index(i).IsZero() || i < v.Len() && !clean(full.Index(i)) {
				return false
			}
		}
	}
	return true
}

// P0.1: what is handed in is not changed, nor the room behind it.
func TestWhatIsHandedInIsNotChanged(t *testing.T) {
	inBatches(t, 3000, func(m *maker) string {
		cs := listed(m.Intn(4), m.command)
		if m.one(3) {
			cs = append(cs, m.wildCommand())
		}
		handed := roomy(reflect.ValueOf(cs))
		list := handed.Interface().([]api.Command)
		before := fmt.Sprintf("%+v", list)
		tongue.Print(list...)
		for _, c := range list {
			tongue.Valid(c)
			tongue.PrintExpr(c.Stmt.Where)
			for _, row := range c.Stmt.Rows {
				for _, e := range row {
					tongue.PrintExpr(e)
				}
			}
		}
		if fmt.Sprintf("%+v", list) != before || !clean(handed) {
			return fmt.Sprintf("P0.1: %s is changed: %+v", before, list)
		}
		return ""
	})
}

// rooms tells where the lists of an answer lie, with the room behind them.
func rooms(v reflect.Value) (list [][2]uintptr) {
	switch v.Kind() {
	case reflect.Struct:
		for i := range v.NumField() {
			list = append(list, rooms(v.Field(i))...)
		}
	case reflect.Slice:
		if v.Cap() > 0 {
			list = append(list, [2]uintptr{v.Pointer(), v.Pointer() + uintptr(v.Cap())*v.Type().Elem().Size()})
		}
		for i := range v.Len() {
			list = append(list, rooms(v.Index(i))...)
		}
	}
	return list
}

// P0.1: each list that is answered is new memory, all through: no two of one answer, or of two answers, lie in the same place.
func TestAnswersAreNewMemory(t *testing.T) {
	lists := 0
	for seed := range int64(300) {
		m := newMaker(seed)
		text := m.script(listed(1+m.Intn(3), m.command)...)
		words := m.laid(m.exprWords(m.goodExpr()))
		answers := func() (all []any) {
			tokens, _, _ := tongue.Lex(text)
			cs, _, _ := tongue.Parse(text)
			e, _, _ := tongue.ParseExpr(words)
			return []any{tokens, cs, e}
		}
		first, second := answers(), answers()
		var places [][2]uintptr
		for _, a := range append(slices.Clone(first), second...) {
			places = append(places, rooms(reflect.ValueOf(a))...)
		}
		slices.SortFunc(places, func(a, b [2]uintptr) int { return int(a[0]) - int(b[0]) })
		for i := 1; i < len(places); i++ {
			if places[i][0] < places[i-1][1] {
				t.Fatalf("P0.1: two lists of %q lie in one place", text)
			}
		}
		lists += len(places)
		right := fmt.Sprintf("%+v", second)
		for _, a := range first {
			spoil(reflect.ValueOf(a))
		}
		want(t, "P0.1: another answer", fmt.Sprintf("%+v", second), right)
		want(t, "P0.1: a later answer", fmt.Sprintf("%+v", answers()), right)
	}
	if lists < 3000 {
		t.Errorf("only %d lists were looked at", lists)
	}
}

// spoil writes over all lists of an answer, and behind them, the inner ones first.
func spoil(v reflect.Value) {
	switch v.Kind() {
	case reflect.Struct:
		for i := range v.NumField() {
			spoil(v.Field(i))
		}
	case reflect.Slice:
		full := v.Slice(0, v.Cap())
		for i := range full.Len() {
			spoil(full.Index(i))
			full.Index(i).SetZero()
		}
	}
}

// P0.1: a command that was printed is not kept: when it is changed it is printed as it is then.
func TestNothingIsKept(t *testing.T) {
	where := expr(col("a"), num(1), op(api.ExEq, 2))
	c := statement(api.Stmt{Kind: api.StDelete, Table: "t", Where: where})
	first, _ := tongue.Print(c)
	where[1] = num(2)
	second, _ := tongue.Print(c)
	where[2] = op(api.ExEq, 3)
	_, e := tongue.Print(c)
	want(t, "P0.1: not kept", []any{first, second, e}, []any{"@1 DELETE FROM t WHERE a = 1;\n", "@1 DELETE FROM t WHERE a = 2;\n", api.ErrTree})
}

// P0.1: the same arguments get the same answers, and calls have nothing in common; several goroutines may call at the same time.
func TestTheSameAnswers(t *testing.T) {
	var group sync.WaitGroup
	var lock sync.Mutex
	told := map[int64]string{}
	before := runtime.NumGoroutine()
	for worker := range int64(4) {
		group.Go(func() {
			for _, seed := range newMaker(worker).Perm(300) {
				m := newMaker(int64(seed))
				script, words := m.wildText(), m.laid(m.exprWords(m.goodExpr()))
				tokens, e1, at1 := tongue.Lex(script)
				cs, e2, at2 := tongue.Parse(script)
				x, e3, at3 := tongue.ParseExpr(words)
				print, e4 := tongue.Print(cs...)
				text := fmt.Sprintf("%+v", []any{tokens, e1, at1, cs, e2, at2, x, e3, at3, print, e4})
				lock.Lock()
				if old := told[int64(seed)]; old != "" && old != text {
					t.Errorf("P0.1: seed %d: %s and %s", seed, old, text)
				}
				told[int64(seed)] = text
				lock.Unlock()
			}
		})
	}
	group.Wait()
	for wait := time.Microsecond; runtime.NumGoroutine() > before; wait *= 2 { // one that has ended may still be counted for a moment
		if wait > time.Second {
			t.Fatalf("P0.1: %d goroutines, %d before", runtime.NumGoroutine(), before)
		}
		time.Sleep(wait)
	}
}
