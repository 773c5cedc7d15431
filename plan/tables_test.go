package plan_test

import (
	"fmt"
	"math"
	"slices"
	"strings"
	"testing"

	"strata/api"
	"strata/bits"
	"strata/plan"
)

// columns writes n columns of names that begin with a text, and a key of the first k of them.
func columns(name string, n, k int) string {
	var cols, key []string
	for i := range n {
		cols = append(cols, fmt.Sprintf(`"%s%d" %s`, name, i, []string{"INT", "TEXT", "BOOL"}[i%3]))
	}
	for i := range k {
		key = append(key, fmt.Sprintf(`"%s%d"`, name, i))
	}
	return "CREATE TABLE t (" + strings.Join(cols, ", ") + ", PRIMARY KEY (" + strings.Join(key, ", ") + "))"
}

// P16.1.
func TestDefine(t *testing.T) {
	u := chapterTable(t)
	want(t, "P16.1: the chapter's table", u, api.Table{Name: "t", Number: 7, Cols: []api.ColDef{{Name: "a", Type: api.KInt, NotNull: true}, {Name: "b", Type: api.KText, NotNull: true}, {Name: "c", Type: api.KBool, NotNull: true}}, Key: []int{1, 0}})
	u = define(t, `CREATE TABLE "q""q" (x BOOL NOT NULL, y INT, "Z " TEXT, PRIMARY KEY ("Z "))`, math.MaxInt64)
	want(t, "P16.1: another one", u, api.Table{Name: `q"q`, Number: math.MaxInt64, Cols: []api.ColDef{{Name: "x", Type: api.KBool, NotNull: true}, {Name: "y", Type: api.KInt}, {Name: "Z ", Type: api.KText, NotNull: true}}, Key: []int{2}})
	const good = "CREATE TABLE t (a INT, b INT, PRIMARY KEY (b))"
	for _, c := range []struct {
		text   string
		number int64
		code   api.Errno
	}{
		{good, 1, api.OK}, {good, 0, api.ErrArg}, {good, -1, api.ErrArg}, {good, math.MinInt64, api.ErrArg},
		{"CREATE TABLE t (a INT, b INT, a TEXT, PRIMARY KEY (b))", 1, api.ErrColumn},
		{"CREATE TABLE t (a INT, b INT, a TEXT, PRIMARY KEY (z))", 1, api.ErrColumn},
		{"CREATE TABLE t (a INT, b INT, a TEXT, PRIMARY KEY (z))", 0, api.ErrArg},
		{`CREATE TABLE t (a INT, "A" INT, PRIMARY KEY ("A", a))`, 1, api.OK},
		{"CREATE TABLE t (a INT, PRIMARY KEY (z))", 1, api.ErrPrimary},
		{"CREATE TABLE t (a INT, PRIMARY KEY (z))", 0, api.ErrArg},
		{"CREATE TABLE t (a INT, b INT, PRIMARY KEY (a, b, a))", 1, api.ErrPrimary},
		{"CREATE TABLE t (a INT, b INT, PRIMARY KEY (a, a))", 1, api.ErrPrimary},
		{"CREATE TABLE t (a INT, PRIMARY KEY (t))", 1, api.ErrPrimary},
		{columns("c", 16, 8), 1, api.OK}, {columns("c", 16, 9), 1, api.ErrPrimary}, {columns("c", 1, 1), 1, api.OK}, {columns("c", 8, 8), 1, api.OK},
		{columns(many(31, "c"), 10, 8), 1, api.OK},
		{"DROP TABLE t", 1, api.ErrTree}, {"INSERT INTO t VALUES (1)", 0, api.ErrTree}, {"BEGIN", 1, api.ErrTree}, {"COMMIT", 1, api.ErrTree}, {"SELECT * FROM t", 1, api.ErrTree}, {"DELETE FROM t", 1, api.ErrTree}, {"UPDATE t SET a = 1", 1, api.ErrTree}, {"ROLLBACK", 1, api.ErrTree},
	} {
		u, code := plan.Define(stmt(t, c.text), c.number)
		want(t, fmt.Sprintf("P16.1: Define(%s, %d)", c.text, c.number), code, c.code)
		if code != api.OK {
			want(t, "P16.1: beside an error", u, api.Table{})
		}
	}
	for what, wrong := range map[string]func(*api.Stmt){
		"no kind": func(s *api.Stmt) { s.Kind = 0 }, "no name": func(s *api.Stmt) { s.Table = "" }, "a long name": func(s *api.Stmt) { s.Table = many(33, "t") },
		"no columns": func(s *api.Stmt) { s.Cols = nil }, "17 columns": func(s *api.Stmt) { s.Cols = slices.Repeat(s.Cols[:1], 17) }, "no key": func(s *api.Stmt) { s.Key = nil },
		"17 keys": func(s *api.Stmt) { s.Key = slices.Repeat(s.Key[:1], 17) }, "a column without a name": func(s *api.Stmt) { s.Cols[0].Name = "" }, "a long column": func(s *api.Stmt) { s.Cols[0].Name = many(33, "c") },
		"a column of nulls": func(s *api.Stmt) { s.Cols[0].Type = api.KNull }, "a column of kind 4": func(s *api.Stmt) { s.Cols[0].Type = 4 }, "a key without a name": func(s *api.Stmt) { s.Key[0] = "" },
		"a limit": func(s *api.Stmt) { s.Limit = 1 }, "a level": func(s *api.Stmt) { s.Level = 1 }, "names": func(s *api.Stmt) { s.Names = s.Key }, "a where": func(s *api.Stmt) { s.Where = expr(t, "TRUE") },
	} {
		s := stmt(t, good)
		wrong(&s)
		for _, number := range []int64{0, 1} {
			u, code := plan.Define(s, number)
			want(t, "P16.1: "+what, list(u, code), list(api.Table{}, api.ErrTree))
		}
	}
	s := stmt(t, good)
	s.Table, s.Cols[0].Name, s.Cols[1].Name, s.Key[0] = many(32, "t"), many(32, "c"), many(32, "d"), many(32, "d")
	_, code := plan.Define(s, 1)
	want(t, "P16.1: long names", code, api.OK)
}

// aTable is one that is well, to be made wrong.
func aTable() api.Table {
	return api.Table{Name: "t", Number: 5, Cols: []api.ColDef{{Name: "a", Type: api.KInt, NotNull: true}, {Name: "b", Type: api.KText}, {Name: "c", Type: api.KBool, NotNull: true}}, Key: []int{2, 0}}
}

func col(name string, kind api.Kind, notNull bool) api.ColDef {
	return api.ColDef{Name: name, Type: kind, NotNull: notNull}
}

// wideTable has n columns, of which the first k are the key.
func wideTable(n, k int) api.Table {
	u := api.Table{Name: "w", Number: 1}
	for i := range n {
		u.Cols = append(u.Cols, col(fmt.Sprint("c", i), api.KInt, i < k))
	}
	for i := range k {
		u.Key = append(u.Key, i)
	}
	return u
}

// tableCases tells tables, and whether they are some.
func tableCases() map[string]func() (api.Table, bool) {
	changed := func(good bool, change func(*api.Table)) func() (api.Table, bool) {
		return func() (api.Table, bool) {
			u := aTable()
			change(&u)
			return u, good
		}
	}
	cases := map[string]func() (api.Table, bool){
		"as it is": changed(true, func(u *api.Table) {}), "nothing": changed(false, func(u *api.Table) { *u = api.Table{} }),
		"no name": changed(false, func(u *api.Table) { u.Name = "" }), "32 bytes": changed(true, func(u *api.Table) { u.Name = many(32, "\x00") }), "33 bytes": changed(false, func(u *api.Table) { u.Name = many(33, "t") }),
		"number 0": changed(false, func(u *api.Table) { u.Number = 0 }), "number 1": changed(true, func(u *api.Table) { u.Number = 1 }), "number -1": changed(false, func(u *api.Table) { u.Number = -1 }),
		"the least": changed(false, func(u *api.Table) { u.Number = math.MinInt64 }), "the greatest": changed(true, func(u *api.Table) { u.Number = math.MaxInt64 }),
		"a column without a name": changed(false, func(u *api.Table) { u.Cols[1].Name = "" }), "a column of 32": changed(true, func(u *api.Table) { u.Cols[1].Name = many(32, "\xff") }), "a column of 33": changed(false, func(u *api.Table) { u.Cols[1].Name = many(33, "x") }),
		"twice": changed(false, func(u *api.Table) { u.Cols[1].Name = "c" }), "nulls": changed(false, func(u *api.Table) { u.Cols[1].Type = api.KNull }), "kind 4": changed(false, func(u *api.Table) { u.Cols[1].Type = 4 }), "kind -1": changed(false, func(u *api.Table) { u.Cols[1].Type = -1 }),
		"a key that may be null": changed(false, func(u *api.Table) { u.Cols[0].NotNull = false }), "all not null": changed(true, func(u *api.Table) { u.Cols[1].NotNull = true }),
		"no key": changed(false, func(u *api.Table) { u.Key = nil }), "one key": changed(true, func(u *api.Table) { u.Key = []int{0} }), "place -1": changed(false, func(u *api.Table) { u.Key[1] = -1 }), "place 3": changed(false, func(u *api.Table) { u.Key[1] = 3 }),
		"place twice": changed(false, func(u *api.Table) { u.Key[1] = 2 }), "place of a null": changed(false, func(u *api.Table) { u.Key[1] = 1 }), "a far place": changed(false, func(u *api.Table) { u.Key[1] = math.MaxInt }), "the least place": changed(false, func(u *api.Table) { u.Key[1] = math.MinInt }),
		"no columns": changed(false, func(u *api.Table) { u.Cols = nil }), "no columns, no key": changed(false, func(u *api.Table) { u.Cols, u.Key = nil, nil }), "one column": changed(true, func(u *api.Table) { u.Cols, u.Key = u.Cols[:1], []int{0} }),
	}
	for _, n := range []struct {
		n, k int
		good bool
	}{{1, 1, true}, {8, 8, true}, {9, 8, true}, {9, 9, false}, {16, 1, true}, {16, 8, true}, {16, 9, false}, {17, 1, false}, {17, 8, false}, {100, 1, false}} {
		cases[fmt.Sprint(n.n, " columns, ", n.k, " of the key")] = func() (api.Table, bool) { return wideTable(n.n, n.k), n.good }
	}
	return cases
}

// What is no table is none for all calls.
func TestWhatIsATable(t *testing.T) {
	for what, made := range tableCases() {
		u, good := made()
		code := api.OK
		if !good {
			code = api.ErrDefine
		}
		p, e := plan.EncodeTable(u)
		want(t, "P16.2: EncodeTable: "+what, e, code)
		values := make([]api.Value, len(u.Cols))
		for i, c := range u.Cols {
			values[i] = map[api.Kind]api.Value{api.KBool: bo(true), api.KInt: in(1), api.KText: tx("x")}[c.Type]
		}
		q, e := plan.RowPair(u, values)
		want(t, "P16.3: RowPair: "+what, e, code)
		back, e := plan.PairRow(u, q)
		want(t, "P16.3: PairRow: "+what, e, code)
		low, high, e := plan.Bounds(u, nil)
		want(t, "P16.7: Bounds: "+what, e, code)
		s := stmt(t, "SELECT * FROM t")
		want(t, "P16.8: Check: "+what, plan.Check(s, u), code)
		r, e := plan.Select(s, u, [][]api.Value{values})
		want(t, "P16.9: Select: "+what, e, code)
		if good {
			again, e := plan.DecodeTable(p)
			want(t, "P16.2: DecodeTable: "+what, list(again, e), list(u, api.OK))
			want(t, "P16.3: PairRow: "+what, back, values)
		} else {
			want(t, "P0.1: beside an error: "+what, list(p, q, back, low, high, r), list(api.Pair{}, api.Pair{}, []api.Value(nil), "", "", api.Result{}))
		}
	}
	for _, s := range []api.Stmt{{}, {Kind: api.StSelect}, stmt(t, "COMMIT")} {
		want(t, "P16.8: ErrTree comes ahead of ErrDefine", plan.Check(s, api.Table{}), api.ErrTree)
	}
	_, code := plan.RowPair(api.Table{}, nil)
	want(t, "P16.3: ErrDefine comes ahead of ErrArity", code, api.ErrDefine)
	_, _, code = plan.Bounds(api.Table{}, api.Expr{{}})
	want(t, "P16.7: ErrDefine comes ahead of ErrTree", code, api.ErrDefine)
}

// plainDefinition lays a table down, byte by byte, as the chapter's line has it.
func plainDefinition(u api.Table) string {
	data := bits.Uvarint(uint64(u.Number)) + bits.Uvarint(uint64(len(u.Cols)))
	for _, c := range u.Cols {
		data += string([]byte{byte(len(c.Name))}) + c.Name
		switch kind := byte(c.Type); c.NotNull {
		case true:
			data += string([]byte{kind + 4})
		case false:
			data += string([]byte{kind})
		}
	}
	data += string([]byte{byte(len(u.Key))})
	for _, place := range u.Key {
		data += string([]byte{byte(place)})
	}
	return data
}

// P16.2.
func TestEncodeTable(t *testing.T) {
	u := chapterTable(t)
	p, code := plan.EncodeTable(u)
	want(t, "P16.2: the chapter's table", list(p, code), list(api.Pair{Key: "\x38\x50t\x00\x01", Data: "\x07\x03\x01a\x06\x01b\x07\x01c\x05\x02\x01\x00"}, api.OK))
	for what, made := range tableCases() {
		if u, good := made(); good {
			p, code := plan.EncodeTable(u)
			key, _ := bits.Key(in(0), tx(u.Name))
			want(t, "P16.2: "+what, list(p, code), list(api.Pair{Key: key, Data: plainDefinition(u)}, api.OK))
		}
	}
	// A column costs its name and two bytes; the rest of one with a number of one byte and a key of one is four bytes.
	for _, c := range []struct {
		number int64
		over   int
		code   api.Errno
	}{{1, 0, api.OK}, {127, 0, api.OK}, {128, 0, api.ErrLong}, {1, 1, api.ErrLong}, {math.MaxInt64, 0, api.ErrLong}, {math.MaxInt64, -8, api.OK}, {math.MaxInt64, -7, api.ErrLong}} {
		u, left := wideTable(16, 1), api.MaxData-4+c.over
		for i := range u.Cols {
			long := min(32, left-2-3*(15-i))
			u.Cols[i].Name = string(rune('a'+i)) + many(long-1, "n")
			left -= long + 2
		}
		u.Number = c.number
		p, code := plan.EncodeTable(u)
		want(t, fmt.Sprintf("P16.2: number %d, %d bytes", c.number, len(plainDefinition(u))), list(code, len(p.Data) > 0, len(p.Key) > 0), list(c.code, c.code == api.OK, c.code == api.OK))
		if code == api.OK {
			want(t, "P16.2: just MaxData", len(p.Data), api.MaxData)
			again, code := plan.DecodeTable(p)
			want(t, "P16.2: DecodeTable", list(again, code), list(u, api.OK))
		} else {
			key, _ := bits.Key(in(0), tx(u.Name))
			_, code := plan.DecodeTable(api.Pair{Key: key, Data: plainDefinition(u)})
			want(t, "P16.2: DecodeTable above MaxData", code, api.ErrDefine)
		}
	}
}

// isPlainTable tells whether a table is one, as the chapter says it.
func isPlainTable(u api.Table) bool {
	if len(u.Name) < 1 || len(u.Name) > 32 || u.Number < 1 || len(u.Cols) < 1 || len(u.Cols) > 16 || len(u.Key) < 1 || len(u.Key) > 8 {
		return false
	}
	for i, c := range u.Cols {
		if len(c.Name) < 1 || len(c.Name) > 32 || c.Type < 1 || c.Type > 3 {
			return false
		}
		for _, d := range u.Cols[:i] {
			if c.Name == d.Name {
				return false
			}
		}
	}
	for i, place := range u.Key {
		if place < 0 || place >= len(u.Cols) || !u.Cols[place].NotNull || slices.Contains(u.Key[:i], place) {
			return false
		}
	}
	return true
}

// P16.2: whatever the bytes are, what is decoded is encoded as them.
func TestDecodeTable(t *testing.T) {
	read, refused := 0, 0
	holds := func(what string, p api.Pair) {
		t.Helper()
		u, code := plan.DecodeTable(p)
		if code != api.OK {
			refused++
			want(t, fmt.Sprintf("P16.2: %s: DecodeTable(%q)", what, p), list(u, code), list(api.Table{}, api.ErrDefine))
			return
		}
		read++
		key, _ := bits.Key(in(0), tx(u.Name))
		want(t, fmt.Sprintf("P16.2: %s: DecodeTable(%q) = %+v", what, p, u), list(key, plainDefinition(u), isPlainTable(u), len(p.Data) <= api.MaxData), list(p.Key, p.Data, true, true))
	}
	several := []api.Table{chapterTable(t), aTable(), wideTable(1, 1), wideTable(16, 8)}
	long := aTable()
	long.Name, long.Number, long.Cols[1].Name = many(32, "\x00"), math.MaxInt64, many(32, "\xff")
	for _, u := range append(several, long) {
		p, _ := plan.EncodeTable(u)
		for _, data := range spoiled(p.Data) {
			holds("data", api.Pair{Key: p.Key, Data: data})
		}
		for _, key := range spoiled(p.Key) {
			holds("key", api.Pair{Key: key, Data: p.Data})
		}
	}
	if read < 300 || refused < 3000 {
		t.Errorf("P16.2: only %d were read, and %d not", read, refused)
	}
	name, other := "\x38\x50t\x00\x01", "\x01\x01\x01a\x06\x01\x00"
	_, code := plan.DecodeTable(api.Pair{Key: name, Data: other})
	want(t, "P16.2: a short one", code, api.OK)
	key := func(values ...api.Value) string {
		key, _ := bits.Key(values...)
		return key
	}
	for what, p := range map[string]api.Pair{
		"a number of two bytes":       {Key: name, Data: "\x81\x00\x01\x01a\x06\x01\x00"},
		"columns of two bytes":        {Key: name, Data: "\x01\x81\x00\x01a\x06\x01\x00"},
		"a name's length of two":      {Key: name, Data: "\x01\x01\x81\x00a\x06\x01\x00"},
		"keys of two bytes":           {Key: name, Data: "\x01\x01\x01a\x06\x81\x00\x00"},
		"a place of two bytes":        {Key: name, Data: "\x01\x01\x01a\x06\x01\x80\x00"},
		"a type of two bytes":         {Key: name, Data: "\x01\x01\x01a\x86\x00\x01\x00"},
		"number 0":                    {Key: name, Data: "\x00\x01\x01a\x06\x01\x00"},
		"number 2^63":                 {Key: name, Data: "\x80\x80\x80\x80\x80\x80\x80\x80\x80\x01\x01\x01a\x06\x01\x00"},
		"number 2^64 - 1":             {Key: name, Data: "\xff\xff\xff\xff\xff\xff\xff\xff\xff\x01\x01\x01a\x06\x01\x00"},
		"2^64 - 1 columns":            {Key: name, Data: "\x01\xff\xff\xff\xff\xff\xff\xff\xff\xff\x01\x01a\x06\x01\x00"},
		"a place of 2^64 - 1":         {Key: name, Data: "\x01\x01\x01a\x06\x01\xff\xff\xff\xff\xff\xff\xff\xff\xff\x01"},
		"a column that may be null":   {Key: name, Data: "\x01\x01\x01a\x02\x01\x00"},
		"a type that is none":         {Key: name, Data: "\x01\x01\x01a\x04\x01\x00"},
		"a type beyond all":           {Key: name, Data: "\x01\x01\x01a\x0a\x01\x00"},
		"no columns":                  {Key: name, Data: "\x01\x00\x01\x00"},
		"no key":                      {Key: name, Data: "\x01\x01\x01a\x06\x00"},
		"an empty name":               {Key: key(in(0), tx("")), Data: other},
		"a long name":                 {Key: key(in(0), tx(many(33, "t"))), Data: other},
		"another table's row":         {Key: key(in(1), tx("t")), Data: other},
		"the counter":                 {Key: key(in(0)), Data: other},
		"a number's row":              {Key: key(in(0), in(1)), Data: other},
		"more behind the name":        {Key: key(in(0), tx("t"), tx("t")), Data: other},
		"a text ahead":                {Key: key(tx(""), tx("t")), Data: other},
		"no key at all":               {Key: "", Data: other},
		"bytes that are no key":       {Key: "\xff", Data: other},
		"no data":                     {Key: name, Data: ""},
		"much data":                   {Key: name, Data: "\x01\xff\xff\xff\x7f" + many(1<<20, "\x01a\x06")},
		"a key that is much too long": {Key: key(in(0), tx("t")) + many(1<<20, "x"), Data: other},
	} {
		u, code := plan.DecodeTable(p)
		want(t, "P16.2: "+what, list(u, code), list(api.Table{}, api.ErrDefine))
	}
}

// spoiled tells a text cut short, made longer, and with each byte turned by each value.
func spoiled(text string) []string {
	list := []string{text}
	for i := range len(text) {
		list = append(list, text[:i], text[i:], text[:i]+"\x00"+text[i:], text[:i]+text[i+1:], text+text[i:])
		for turn := range 256 {
			list = append(list, text[:i]+string([]byte{text[i] ^ byte(turn)})+text[i+1:])
		}
	}
	return append(list, text+"\x00", text+"\xff", text+text)
}

// P16.3.
func TestRowPair(t *testing.T) {
	u := chapterTable(t)
	p, code := plan.RowPair(u, row(in(5), tx("x"), bo(true)))
	want(t, "P16.3: the chapter's example", list(p, code), list(api.Pair{Key: "\x39\x07\x50\x78\x00\x01\x39\x05", Data: "\x03\x1e\x0a\x01\x78\x01"}, api.OK))
	v := aTable() // a INT NOT NULL, b TEXT, c BOOL NOT NULL; the key is c, a
	bad := []struct {
		value api.Value
		code  api.Errno
	}{
		{api.Value{Kind: api.KNull, Int: 1}, api.ErrValue}, {api.Value{Kind: api.KNull, Text: "x"}, api.ErrValue},
		{api.Value{Kind: api.KBool, Int: 2}, api.ErrValue}, {api.Value{Kind: api.KBool, Int: -1}, api.ErrValue}, {api.Value{Kind: api.KBool, Text: "x"}, api.ErrValue},
		{api.Value{Kind: api.KInt, Text: "x"}, api.ErrValue}, {api.Value{Kind: api.KText, Int: 1}, api.ErrValue},
		{tx(many(api.MaxText+1, "x")), api.ErrLong}, {api.Value{Kind: api.KText, Int: 1, Text: many(api.MaxText+1, "x")}, api.ErrValue},
		{api.Value{Kind: 4}, api.ErrValue}, {api.Value{Kind: -1}, api.ErrValue}, {api.Value{Kind: math.MaxInt}, api.ErrValue},
	}
	good := row(in(1), null, bo(false))
	for i := range good {
		for _, b := range bad {
			values := slices.Clone(good)
			values[i] = b.value
			p, code := plan.RowPair(v, values)
			want(t, fmt.Sprintf("P16.3: column %d, %.60v", i, b.value), list(p, code), list(api.Pair{}, b.code))
			for j := range i { // what is wrong ahead of it comes first
				values[j] = tx("x")
				if j == 1 {
					values[j] = in(1)
				}
				_, code := plan.RowPair(v, values)
				want(t, fmt.Sprintf("P16.3: column %d ahead of %d", j, i), code, api.ErrType)
				values[j] = good[j]
			}
		}
	}
	for _, c := range []struct {
		row  []api.Value
		code api.Errno
	}{
		{good, api.OK}, {nil, api.ErrArity}, {good[:2], api.ErrArity}, {append(slices.Clone(good), null), api.ErrArity}, {row(tx("x"), in(1)), api.ErrArity},
		{row(null, null, bo(true)), api.ErrNotNull}, {row(in(1), null, null), api.ErrNotNull}, {row(null, in(1), null), api.ErrNotNull}, {row(in(1), in(1), null), api.ErrType},
		{row(bo(true), null, bo(true)), api.ErrType}, {row(tx("1"), null, bo(true)), api.ErrType}, {row(in(1), bo(true), bo(true)), api.ErrType}, {row(in(1), tx(""), in(1)), api.ErrType}, {row(in(1), tx(""), tx("")), api.ErrType},
		{row(in(1), tx(many(api.MaxData-8, "x")), bo(true)), api.OK}, {row(in(1), tx(many(api.MaxData+1, "x")), bo(true)), api.ErrKey}, {row(in(1), tx(many(api.MaxText, "x")), bo(true)), api.ErrKey},
		{row(in(1), tx(many(api.MaxText, "x")), null), api.ErrNotNull},
	} {
		p, code := plan.RowPair(v, c.row)
		want(t, fmt.Sprintf("P16.3: RowPair(%.90v)", c.row), code, c.code)
		if code != api.OK {
			want(t, "P16.3: beside an error", p, api.Pair{})
		}
	}
	// Behind the number (two bytes) a text of n bytes takes n + 3 of a key; a byte 0 counts twice.
	keyed := api.Table{Name: "k", Number: 200, Cols: []api.ColDef{col("a", api.KText, true), col("b", api.KText, false)}, Key: []int{0}}
	for _, c := range []struct {
		a    string
		code api.Errno
	}{{many(155, "x"), api.OK}, {many(156, "x"), api.ErrKey}, {many(77, "\x00") + "x", api.OK}, {many(78, "\x00"), api.ErrKey}, {many(api.MaxText, "x"), api.ErrKey}} {
		p, code := plan.RowPair(keyed, row(tx(c.a), null))
		want(t, fmt.Sprintf("P16.3: a key of %d bytes", len(c.a)), code, c.code)
		if code == api.OK {
			want(t, "P16.3: just MaxKey", len(p.Key), api.MaxKey)
		}
	}
	// The data of (text of one byte, text of n bytes): count, kinds, two bytes, and two bytes of length for n from 128 on.
	for n := api.MaxData - 8; n < api.MaxData; n++ {
		p, code := plan.RowPair(keyed, row(tx("k"), tx(many(n, "x"))))
		if long := n + 6; long <= api.MaxData {
			want(t, "P16.3: data up to MaxData", list(code, len(p.Data)), list(api.OK, long))
		} else {
			want(t, "P16.3: data above MaxData", list(code, len(p.Data)), list(api.ErrKey, 0))
		}
	}
}

// P16.3: the keys' order is the order of the key columns' values; rows are read back.
func TestRowsAndPairs(t *testing.T) {
	m := newMaker(1)
	for range 4000 {
		u := m.table()
		a, b := m.row(u), m.row(u)
		p, code := plan.RowPair(u, a)
		if right := plainRowCode(u, a); code != right {
			t.Fatalf("P16.3: RowPair(%+v, %.300v) = %d, want %d", u, a, code, right)
		}
		if code != api.OK {
			continue
		}
		back, code := plan.PairRow(u, p)
		want(t, fmt.Sprintf("P16.3: PairRow(%+v, %q)", u, p), list(back, code), list(a, api.OK))
		q, code := plan.RowPair(u, b)
		if code != api.OK {
			continue
		}
		order := 0
		for _, place := range u.Key {
			if order == 0 {
				order = bits.CompareValues(a[place], b[place])
			}
		}
		want(t, fmt.Sprintf("P16.3: the order of %v and %v", a, b), strings.Compare(p.Key, q.Key), order)
		if p.Key != q.Key {
			_, code = plan.PairRow(u, api.Pair{Key: p.Key, Data: q.Data})
			want(t, "P16.3: another row's data", code, api.ErrDefine)
		}
	}
}

// plainRowCode tells what is wrong with a row, column by column.
func plainRowCode(u api.Table, values []api.Value) api.Errno {
	long, key := 0, 0
	for i, c := range u.Cols {
		v := values[i]
		whole, code := bits.Key(v)
		switch {
		case code != api.OK:
			return code
		case v == null && c.NotNull:
			return api.ErrNotNull
		case v != null && v.Kind != c.Type:
			return api.ErrType
		}
		if slices.Contains(u.Key, i) {
			key += len(whole)
		}
		data, _ := bits.Row(v)
		long += len(data) - 2
	}
	number, _ := bits.Key(in(u.Number))
	if key+len(number) > api.MaxKey || long+1+(len(u.Cols)+3)/4 > api.MaxData {
		return api.ErrKey
	}
	return api.OK
}

// P16.3: whatever the bytes are, the row that is read is laid down as them.
func TestPairRow(t *testing.T) {
	read, refused := 0, 0
	holds := func(u api.Table, p api.Pair) {
		t.Helper()
		values, code := plan.PairRow(u, p)
		if code != api.OK {
			refused++
			want(t, fmt.Sprintf("P16.3: PairRow(%q)", p), list(values, code), list([]api.Value(nil), api.ErrDefine))
			return
		}
		read++
		again, code := plan.RowPair(u, values)
		want(t, fmt.Sprintf("P16.3: PairRow(%q)", p), list(again, code), list(p, api.OK))
	}
	tables := []api.Table{chapterTable(t), aTable(), wideTable(16, 8), wideTable(1, 1)}
	rows := [][]api.Value{row(in(-300), tx("a\x00b"), bo(true)), row(in(1), null, bo(false)), slices.Repeat(row(in(7)), 16), row(in(math.MinInt64))}
	for i, u := range tables {
		p, code := plan.RowPair(u, rows[i])
		want(t, "P16.3: RowPair", code, api.OK)
		for _, data := range spoiled(p.Data) {
			holds(u, api.Pair{Key: p.Key, Data: data})
		}
		for _, key := range spoiled(p.Key) {
			holds(u, api.Pair{Key: key, Data: p.Data})
		}
		other := u
		other.Number++
		_, code = plan.PairRow(other, p)
		want(t, "P16.3: another table's row", code, api.ErrDefine)
	}
	if read < len(tables) || refused < 3000 {
		t.Errorf("P16.3: only %d were read, and %d not", read, refused)
	}
	u := aTable()
	for what, data := range map[string]string{"null in the key": "\x03\x0c\x01x", "a number in two bytes": "\x03\x1e\x80\x00\x01x\x01", "kinds behind the last": "\x03\x5e\x02\x01x\x01", "more behind": "\x03\x1e\x02\x01x\x01\x00", "two values": "\x02\x0e\x02\x01x", "17 values": "\x11"} {
		for _, key := range []string{"\x39\x05\x21\x39\x01", "\x39\x05\x21\x38", ""} {
			_, code := plan.PairRow(u, api.Pair{Key: key, Data: data})
			want(t, "P16.3: "+what, code, api.ErrDefine)
		}
	}
}
