package tongue_test

import (
	"fmt"
	"strings"
	"testing"

	"strata/api"
	"strata/tongue"
)

// shapes gives of each operation an expression over others: at the place of a number stands that one.
func shapes() map[string]func(of ...api.Expr) api.Expr {
	list := map[string]func(of ...api.Expr) api.Expr{}
	for o := api.ExNeg; o <= api.ExCase; o++ {
		list[fmt.Sprint(o)] = func(of ...api.Expr) api.Expr { return over(op(o, 0), of...) }
	}
	for _, o := range []int{api.ExBetween, api.ExIn, api.ExLike} {
		list[fmt.Sprint("not ", o)] = func(of ...api.Expr) api.Expr { return over(op(api.ExNot, 0), over(op(o, 0), of...)) }
	}
	list["call"] = func(of ...api.Expr) api.Expr { return over(call("coalesce", 0), of...) }
	return list
}

func operandsOf(shape string) int {
	var o int
	fmt.Sscan(strings.TrimPrefix(shape, "not "), &o)
	switch {
	case o >= api.ExNeg && o <= api.ExNotNull:
		return 1
	case o >= api.ExAdd && o <= api.ExLike:
		return 2
	}
	return 3
}

// P15.9: for each operation, each operation as its operand, and each place: brackets stand just where the text would be read otherwise, or not at all, without them.
func TestBracketsOfPairs(t *testing.T) {
	brackets, none := 0, 0
	for outer, makeOuter := range shapes() {
		for inner, makeInner := range shapes() {
			for place := range operandsOf(outer) {
				var of, within []api.Expr
				for i := range operandsOf(outer) {
					of = append(of, expr(col(fmt.Sprint("a", i))))
				}
				for i := range operandsOf(inner) {
					within = append(within, expr(col(fmt.Sprint("b", i))))
				}
				operand := makeInner(within...)
				of[place] = operand
				e := makeOuter(of...)
				if e[len(e)-1].Op == api.ExNot && e[len(e)-2].Op != api.ExNot && outer == fmt.Sprint(api.ExNot) && strings.Contains("26 27 25", inner) {
					continue // it is printed within its operand
				}
				inside, _ := tongue.PrintExpr(operand)
				got, code := tongue.PrintExpr(e)
				right, _ := plainExpr(e)
				want(t, "P15.9: a pair", []any{got, code}, []any{right, api.OK})
				again, code, at := tongue.ParseExpr(got)
				want(t, "P15.9: "+got, []any{again, code, at}, []any{e, api.OK, 0})
				if !strings.Contains(got, inside) {
					t.Errorf("P15.9: %q is not in %q", inside, got)
				}
				bare := strings.Replace(got, "("+inside+")", inside, 1)
				if other, code, _ := tongue.ParseExpr(bare); bare != got && outer != "call" && code == api.OK && same(other, e) && !strings.Contains(got, "IN ("+inside+")") {
					t.Errorf("P15.9: %q needs no brackets: %q", got, bare)
				}
				if bare != got {
					brackets++
				} else {
					none++
				}
			}
		}
	}
	if brackets < 300 || none < 300 {
		t.Errorf("%d pairs with brackets, %d without", brackets, none)
	}
}

// P15.8: names are printed as they are, or in quotes.
func TestPrintOfNames(t *testing.T) {
	for name, print := range map[string]string{
		"a": "a", "z_9": "z_9", "_": "_", "__1": "__1", "x": "x", "abs": "abs", "float": "float", "selects": "selects", "count1": "count1",
		"A": `"A"`, "aB": `"aB"`, "1": `"1"`, "1a": `"1a"`, "a b": `"a b"`, "a-b": `"a-b"`, `"`: `""""`, `a"b"`: `"a""b"""`, "'": `"'"`, "\x00": "\"\x00\"", "\xff": "\"\xff\"", "ä": `"ä"`, "a.b": `"a.b"`, " ": `" "`, ";": `";"`, "Select": `"Select"`, "SELECT": `"SELECT"`, "a\n": "\"a\n\"", "@": `"@"`, "(": `"("`, ")": `")"`, ",": `","`, "{": `"{"`, "`": "\"`\"", "a[": `"a["`, "a/": `"a/"`, "a:": `"a:"`,
	} {
		prints(t, expr(col(name)), print)
		prints(t, expr(col(name), op(api.ExNeg, 1)), "-"+print)
		gives(t, "@1 drop table "+print+";", "@1 DROP TABLE "+print+";", statement(api.Stmt{Kind: api.StDrop, Table: name}))
		s := api.Stmt{Kind: api.StSelect, Table: name, Limit: -1, Items: []api.Item{{Of: expr(col(name)), As: name}}, Order: []api.Sort{{Col: name}, {Col: name, Desc: true}}}
		gives(t, "@1 select "+print+" as "+print+" from "+print+" order by "+print+","+print+" desc;", "@1 SELECT "+print+" AS "+print+" FROM "+print+" ORDER BY "+print+", "+print+" DESC;", statement(s))
		s = api.Stmt{Kind: api.StCreate, Table: name, Cols: []api.ColDef{{Name: name, Type: api.KText}}, Key: []string{name, name}}
		gives(t, "@1 create table "+print+"("+print+" text,primary key("+print+","+print+"));", "@1 CREATE TABLE "+print+" ("+print+" TEXT, PRIMARY KEY ("+print+", "+print+"));", statement(s))
		s = api.Stmt{Kind: api.StInsert, Table: name, Names: []string{name, name}, Rows: [][]api.Expr{{expr(col(name))}}}
		gives(t, "@1 insert into "+print+"("+print+","+print+")values("+print+");", "@1 INSERT INTO "+print+" ("+print+", "+print+") VALUES ("+print+");", statement(s))
		s = api.Stmt{Kind: api.StUpdate, Table: name, Names: []string{name}, Rows: [][]api.Expr{{expr(col(name))}}}
		gives(t, "@1 update "+print+" set "+print+"="+print+";", "@1 UPDATE "+print+" SET "+print+" = "+print+";", statement(s))
	}
	for _, word := range strings.Fields(plainKeywords) {
		prints(t, expr(col(strings.ToLower(word))), `"`+strings.ToLower(word)+`"`)
		prints(t, expr(col(word)), `"`+word+`"`)
		prints(t, expr(col(strings.ToLower(word)+"s_")), strings.ToLower(word)+"s_")
	}
}

// P15.8: texts and integers.
func TestPrintOfLeaves(t *testing.T) {
	for value, print := range map[string]string{"": "''", "a": "'a'", "'": "''''", "''": "''''''", "a'b": "'a''b'", "--": "'--'", "/*": "'/*'", "\x00\xff": "'\x00\xff'", "\"": "'\"'", ")": "')'", ",": "','", ";": "';'", "(": "'('", "@": "'@'", "\n": "'\n'"} {
		prints(t, expr(text(value)), print)
		prints(t, expr(text(value), text(value), op(api.ExCat, 2)), print+" || "+print)
		prints(t, expr(text(value), op(api.ExNeg, 1)), "-"+print)
		prints(t, expr(col("x"), text(value), op(api.ExLike, 2)), "x LIKE "+print)
	}
	prints(t, expr(num(0)), "0")
	prints(t, expr(num(10)), "10")
	prints(t, expr(num(9223372036854775807), op(api.ExNeg, 1)), "-9223372036854775807")
	for b := range 256 {
		gives(t, fmt.Sprintf("play x'%02X';", b), fmt.Sprintf("PLAY x'%02x';", b), api.Command{Kind: api.CmPlay, Bytes: string([]byte{byte(b)})})
	}
	gives(t, "play '"+many(4096, "a")+"';", "PLAY x'"+many(4096, "61")+"';", api.Command{Kind: api.CmPlay, Bytes: many(4096, "a")})
}

// P15.8: a minus ahead of what it is of.
func TestPrintOfMinuses(t *testing.T) {
	a, neg := col("a"), op(api.ExNeg, 1)
	prints(t, expr(a, neg, neg), "- -a")
	prints(t, expr(a, neg, neg, neg), "- - -a")
	prints(t, expr(num(1), num(2), neg, op(api.ExSub, 2)), "1 - -2")
	prints(t, expr(num(1), num(2), neg, neg, op(api.ExSub, 2)), "1 - - -2")
	prints(t, expr(num(1), neg, num(2), op(api.ExSub, 2), neg), "-(-1 - 2)")
	prints(t, expr(num(1), neg, num(2), op(api.ExMul, 2), neg), "-(-1 * 2)")
	prints(t, expr(a, op(api.ExNot, 1), neg), "-(NOT a)")
	prints(t, expr(a, op(api.ExIsNull, 1), neg, op(api.ExNot, 1)), "NOT -(a IS NULL)")
	prints(t, expr(a, neg, call("abs", 1), neg), "-abs(-a)")
	prints(t, expr(a, neg, a, a, op(api.ExCase, 3), neg), "-CASE WHEN -a THEN a ELSE a END")
	prints(t, expr(a, neg, op(api.ExNot, 1), op(api.ExNot, 1)), "NOT NOT -a")
	prints(t, expr(op(api.ExNull, 0), neg), "-NULL")
}

// P15.8: blanks, in a command that has all of the tokens at which none stands.
func TestPrintOfBlanks(t *testing.T) {
	e := over(call("nullif", 0), over(op(api.ExIn, 0), over(op(api.ExMul, 0), over(op(api.ExAdd, 0), expr(num(1)), expr(num(2))), expr(col("a"))), expr(num(3)), expr(num(4))), expr(text("b")))
	s := api.Stmt{Kind: api.StSelect, Table: "t", Items: []api.Item{{Of: e}, {Agg: api.AgMax, Of: over(op(api.ExOr, 0), e, e)}, {Agg: api.AgCount}}, Limit: 7}
	f := "nullif((1 + 2) * a IN (3, 4), 'b')"
	gives(t, "@ 1 SELECT "+f+" , MAX ( "+f+" or "+f+" ) , COUNT ( * ) FROM t LIMIT 7 ;", "@1 SELECT "+f+", MAX("+f+" OR "+f+"), COUNT(*) FROM t LIMIT 7;", statement(s))
	got, code := tongue.Print(api.Command{Kind: api.CmDrain}, api.Command{Kind: api.CmCrash}, api.Command{Kind: api.CmStmt, Stmt: api.Stmt{Kind: api.StCommit}}, api.Command{Kind: api.CmTick})
	want(t, "P15.8: some commands", []any{got, code}, []any{"DRAIN;\nCRASH;\n@0 COMMIT;\nTICK 0;\n", api.OK})
}

// P15.8: as many commands as may be, and one more; how ErrMany and ErrTree stand to each other.
func TestPrintOfMany(t *testing.T) {
	list := make([]api.Command, 1001)
	got, code := tongue.Print(list...)
	want(t, "P15.8: too many that are none", []any{got, code}, []any{"", api.ErrMany})
	got, code = tongue.Print(list[:1000]...)
	want(t, "P15.8: many that are none", []any{got, code}, []any{"", api.ErrTree})
	for i := range list {
		list[i].Kind = api.CmSync
	}
	got, code = tongue.Print(list...)
	want(t, "P15.8: too many", []any{got, code}, []any{"", api.ErrMany})
	got, code = tongue.Print(list[:1000]...)
	want(t, "P15.8: many", []any{got == many(1000, "SYNC;\n"), code}, []any{true, api.OK})
	for _, i := range []int{0, 1, 500, 999} {
		list[i].Num = 1
		got, code = tongue.Print(list[:1000]...)
		want(t, "P15.8: one is none", []any{got, code}, []any{"", api.ErrTree})
		list[i].Num = 0
	}
	got, code = tongue.Print()
	want(t, "P15.8: none", []any{got, code}, []any{"", api.OK})
	long := api.Command{Kind: api.CmPlay, Bytes: many(4096, "b")}
	got, code = tongue.Print(long, long, long, long, long, long, long, long)
	want(t, "P15.8: a print above MaxScript", []any{len(got), code}, []any{8 * (8192 + len("PLAY x'';\n")), api.OK})
	fails(t, got, api.ErrLong, 0)
	fails(t, got[:7*(8192+10)], api.OK, 0)
}
