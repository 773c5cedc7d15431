package plan_test

import (
	"fmt"
	"math"
	"slices"
	"strings"
	"testing"

	"strata/api"
	"strata/bits"
	"strata/engine"
	"strata/plan"
)

// key lays down values.
func key(values ...api.Value) string {
	k, _ := bits.Key(values...)
	return k
}

// data lays down a row.
func data(values ...api.Value) string {
	d, _ := bits.Row(values...)
	return d
}

// rowsOf tells what an engine holds, without the stamps.
func rowsOf(e *engine.Engine) []api.Pair {
	var pairs []api.Pair
	for _, r := range e.Rows() {
		pairs = append(pairs, api.Pair{Key: r.Key, Data: r.Data})
	}
	return pairs
}

// answers tells the rows of a SELECT.
func answers(t *testing.T, e *engine.Engine, session int, text string) [][]api.Value {
	t.Helper()
	return good(t, e, session, text)[0].Rows
}

// refusedAtOnce runs a statement that is done at its first step, without an access and with nothing changed.
func refusedAtOnce(t *testing.T, what string, e *engine.Engine, session int, s api.Stmt, code api.Errno) {
	t.Helper()
	m := plan.NewRun(e, session, s)
	accesses, busy, open := e.Accesses(), e.Busy(session), e.Open(session)
	want(t, "P16.10: ahead of the first step: "+what, m.Result(), api.Result{})
	done := m.Step()
	want(t, "P16.10: "+what, list(done, m.Result(), e.Accesses(), e.Busy(session), e.Open(session)), list(true, api.Result{Code: code}, accesses, busy, open))
}

// P16.10: what is refused ahead of any call.
func TestRefusedAtOnce(t *testing.T) {
	e := roomyEngine(t, 2)
	query := stmt(t, "SELECT * FROM t")
	for what, s := range wrongStatements(t) {
		refusedAtOnce(t, "no statement: "+what, e, 0, s, api.ErrTree)
		refusedAtOnce(t, "no statement, no session: "+what, e, 7, s, api.ErrTree)
	}
	for _, session := range strange() {
		if session < 0 || session >= 2 {
			refusedAtOnce(t, "no session", e, session, query, api.ErrSession)
			_, code := plan.Do(e, session, query)
			want(t, "P16.11: no session", code, api.ErrSession)
			_, code = plan.Do(e, session)
			want(t, "P16.11: no session, no statements", code, api.ErrSession)
		}
	}
	e.Start(0, begin(api.Snapshot))
	for range 3 { // a call of which no step is made, one that is at work
		refusedAtOnce(t, "a session that is busy", e, 0, query, api.ErrBusy)
		refusedAtOnce(t, "a session that is busy, no statement", e, 0, api.Stmt{}, api.ErrTree)
		rs, code := plan.Do(e, 0, query)
		want(t, "P16.11: a session that is busy", list(rs, code), list([]api.Result(nil), api.ErrBusy))
		e.Step(0)
	}
	e.Run(0, 100)
	for _, text := range []string{"BEGIN", "COMMIT", "SELECT * FROM t", "CREATE TABLE t (a INT, PRIMARY KEY (z))"} {
		refusedAtOnce(t, "an answer that was not taken", e, 0, stmt(t, text), api.ErrBusy)
	}
	_, code := plan.Do(e, 0)
	want(t, "P16.11: an answer that was not taken", code, api.ErrBusy)
	a, code := e.Take(0)
	want(t, "P16.10: the answer is still there", list(a.Code, a.Stamp, code), list(api.OK, 1, api.OK))
	// In the transaction that is open now.
	refusedAtOnce(t, "a begin in a transaction", e, 0, stmt(t, "BEGIN"), api.ErrOpenTx)
	refusedAtOnce(t, "no table's definition", e, 0, stmt(t, "CREATE TABLE t (a INT, PRIMARY KEY (z))"), api.ErrPrimary)
	refusedAtOnce(t, "columns that are alike", e, 0, stmt(t, "CREATE TABLE t (a INT, a INT, PRIMARY KEY (a))"), api.ErrColumn)
	refusedAtOnce(t, "a definition that is too long", e, 0, stmt(t, columns(many(30, "c"), 16, 1)), api.ErrLong)
	// In none.
	refusedAtOnce(t, "a commit without one", e, 1, stmt(t, "COMMIT"), api.ErrNoTx)
	refusedAtOnce(t, "a rollback without one", e, 1, stmt(t, "ROLLBACK"), api.ErrNoTx)
	refusedAtOnce(t, "no table's definition, alone", e, 1, stmt(t, "CREATE TABLE t (a INT, PRIMARY KEY (z))"), api.ErrPrimary)
	refusedAtOnce(t, "a definition that is too long, alone", e, 1, stmt(t, columns(many(30, "c"), 16, 1)), api.ErrLong)
	want(t, "P16.10: nothing has changed", list(len(e.Rows()), len(e.Commits(0)), e.Open(0), e.Open(1)), list(0, 0, true, false))
}

// P16.10, P16.11: nil engines and nil machines.
func TestNil(t *testing.T) {
	for _, e := range []*engine.Engine{nil, {}} {
		want(t, "P16.10: NewRun without an engine", plan.NewRun(e, 0, stmt(t, "BEGIN")) == nil, true)
		rs, code := plan.Do(e, 0, stmt(t, "BEGIN"))
		want(t, "P16.11: Do without an engine", list(rs, code), list([]api.Result(nil), api.ErrNil))
		_, code = plan.Do(e, -1)
		want(t, "P16.11: Do without an engine", code, api.ErrNil)
	}
	for _, m := range []*plan.Run{nil, {}} {
		for range 2 {
			want(t, "P16.10: a nil machine", list(m.Step(), m.Result()), list(true, api.Result{Code: api.ErrNil}))
		}
	}
	rs, code := plan.Do(roomyEngine(t, 1), 0)
	want(t, "P16.11: no statements", list(rs, code), list([]api.Result(nil), api.OK))
}

// P16.10: BEGIN, COMMIT and ROLLBACK, at each level.
func TestTransactionsOfEachLevel(t *testing.T) {
	e := roomyEngine(t, 1)
	for level, text := range []string{api.ReadCommitted: "BEGIN READ COMMITTED", api.Snapshot: "BEGIN", api.RepeatableRead: "BEGIN REPEATABLE READ", api.Serializable: "BEGIN SERIALIZABLE"} {
		if level == 0 {
			continue
		}
		for _, end := range []string{"COMMIT", "ROLLBACK"} {
			clock := e.Floor() - 1
			rs := does(t, e, 0, text, end)
			right := api.Result{End: api.EndAbort}
			if end == "COMMIT" {
				right = api.Result{Stamp: clock + 2, End: api.EndCommit}
			}
			want(t, "P16.10: "+text+", "+end, rs, []api.Result{{Stamp: clock + 1}, right})
			h := e.History()
			want(t, "P16.10: the level of "+text, h.Txns[len(h.Txns)-1].Iso, level)
		}
	}
	rs := does(t, e, 0, "BEGIN", "BEGIN SERIALIZABLE", "COMMIT", "COMMIT", "ROLLBACK")
	want(t, "P16.10: out of turn", list(rs[1], rs[2].End, rs[3], rs[4]), list(api.Result{Code: api.ErrOpenTx}, api.EndCommit, api.Result{Code: api.ErrNoTx}, api.Result{Code: api.ErrNoTx}))
	full := engineOf(t, api.Config{Slots: 9, Buckets: 1, TxSlots: 1, Sessions: 2})
	good(t, full, 0, "BEGIN")
	want(t, "P16.10: a begin that fails", doesOne(t, full, 1, "BEGIN"), api.Result{Code: api.ErrTxFull})
	want(t, "P16.10: a statement whose begin fails", doesOne(t, full, 1, "SELECT * FROM t"), api.Result{Code: api.ErrTxFull})
	late := engineOf(t, api.Config{Slots: 9, Buckets: 1, TxSlots: 4, Sessions: 1, Clock: api.MaxTime})
	want(t, "P16.10: no timestamp is left", list(doesOne(t, late, 0, "BEGIN"), doesOne(t, late, 0, "DROP TABLE t")), list(api.Result{Code: api.ErrClock}, api.Result{Code: api.ErrClock}))
	last := engineOf(t, api.Config{Slots: 9, Buckets: 1, TxSlots: 4, Sessions: 1, Clock: api.MaxTime - 1})
	want(t, "P16.10: none is left for the commit", doesOne(t, last, 0, "CREATE TABLE t (a INT, PRIMARY KEY (a))"), api.Result{Code: api.ErrClock, End: api.EndAbort})
	early := engineOf(t, api.Config{Slots: 9, Buckets: 1, TxSlots: 4, Sessions: 1, Clock: api.MaxTime - 1})
	rs = does(t, early, 0, "BEGIN", "COMMIT")
	want(t, "P16.10: none is left for COMMIT", rs[1], api.Result{Code: api.ErrClock, End: api.EndAbort})
}

// P16.10: the catalog's rows.
func TestCatalog(t *testing.T) {
	e := roomyEngine(t, 1)
	want(t, "P16.10: CREATE", doesOne(t, e, 0, "CREATE TABLE t (a INT, b TEXT, PRIMARY KEY (a))"), api.Result{Stamp: 2, End: api.EndCommit})
	counter, first, name := key(in(0)), key(in(0), in(1)), key(in(0), tx("t"))
	definition := "\x01\x02\x01a\x06\x01b\x03\x01\x00"
	want(t, "P16.10: the catalog", rowsOf(e), []api.Pair{{Key: counter, Data: data(in(1))}, {Key: first, Data: data(tx("t"))}, {Key: name, Data: definition}})
	good(t, e, 0, "INSERT INTO t VALUES (5, 'x')", "CREATE TABLE \"U u\" (x BOOL, PRIMARY KEY (x))", "INSERT INTO \"U u\" VALUES (TRUE)")
	second, other := key(in(0), in(2)), key(in(0), tx("U u"))
	want(t, "P16.10: two tables", rowsOf(e), []api.Pair{{Key: counter, Data: data(in(2))}, {Key: first, Data: data(tx("t"))}, {Key: second, Data: data(tx("U u"))}, {Key: other, Data: "\x02\x01\x01x\x05\x01\x00"}, {Key: name, Data: definition}, {Key: key(in(1), in(5)), Data: data(in(5), tx("x"))}, {Key: key(in(2), bo(true)), Data: data(bo(true))}})
	want(t, "P16.10: a table that is there", doesOne(t, e, 0, "CREATE TABLE t (z INT, PRIMARY KEY (z))"), api.Result{Code: api.ErrExists, End: api.EndAbort})
	r := doesOne(t, e, 0, "DROP TABLE t")
	want(t, "P16.10: DROP", list(r.Code, r.Count, r.End, r.Stamp > 0), list(api.OK, 1, api.EndCommit, true))
	want(t, "P16.10: the number stays", rowsOf(e), []api.Pair{{Key: counter, Data: data(in(2))}, {Key: first, Data: data(tx("t"))}, {Key: second, Data: data(tx("U u"))}, {Key: other, Data: "\x02\x01\x01x\x05\x01\x00"}, {Key: key(in(2), bo(true)), Data: data(bo(true))}})
	good(t, e, 0, "CREATE TABLE t (a INT, b TEXT, PRIMARY KEY (a))")
	want(t, "P16.10: made again", len(answers(t, e, 0, "SELECT * FROM t")), 0)
	want(t, "P16.10: the number behind it", rowsOf(e)[0].Data, data(in(3)))
	want(t, "P16.10: a table that is not there", doesOne(t, e, 0, "DROP TABLE z"), api.Result{Code: api.ErrTable, End: api.EndAbort})
	want(t, "P16.10: a table of no rows", doesOne(t, e, 0, "DROP TABLE t").Count, 0)
	// A rollback leaves nothing.
	rows := rowsOf(e)
	good(t, e, 0, "BEGIN", "CREATE TABLE w (a INT, PRIMARY KEY (a))", "INSERT INTO w VALUES (1)", "SELECT * FROM w", "DROP TABLE w", "CREATE TABLE w (b INT, PRIMARY KEY (b))", "ROLLBACK")
	want(t, "P16.10: rolled back", rowsOf(e), rows)
	good(t, e, 0, "BEGIN", "CREATE TABLE w (a INT, PRIMARY KEY (a))", "DROP TABLE w", "CREATE TABLE w (b TEXT, PRIMARY KEY (b))", "INSERT INTO w VALUES ('x')", "COMMIT")
	want(t, "P16.10: two numbers in one transaction", list(rowsOf(e)[0].Data == data(in(5)), answers(t, e, 0, "SELECT * FROM w")), list(true, [][]api.Value{{tx("x")}}))
}

// stored tells an engine that begins with rows.
func stored(t *testing.T, pairs ...api.Pair) *engine.Engine {
	t.Helper()
	slices.SortFunc(pairs, func(a, b api.Pair) int { return strings.Compare(a.Key, b.Key) })
	var rows []api.Row
	for _, p := range pairs {
		rows = append(rows, api.Row{Key: p.Key, Data: p.Data, Stamp: 1})
	}
	return engineOf(t, api.Config{Slots: 200, Buckets: 2, TxSlots: 8, Sessions: 2, Clock: 1}, rows...)
}

// P16.10: data that is none.
func TestDataThatIsNone(t *testing.T) {
	const create = "CREATE TABLE t (a INT, b TEXT, PRIMARY KEY (a))"
	for _, c := range []struct {
		data string
		code api.Errno
	}{
		{data(in(1)), api.OK}, {data(in(7)), api.OK}, {data(in(math.MaxInt64 - 1)), api.OK}, {data(in(math.MaxInt64)), api.ErrDefine}, {data(in(0)), api.ErrDefine}, {data(in(-1)), api.ErrDefine}, {data(in(math.MinInt64)), api.ErrDefine},
		{"", api.ErrDefine}, {data(), api.ErrDefine}, {data(in(1), in(1)), api.ErrDefine}, {data(tx("1")), api.ErrDefine}, {data(null), api.ErrDefine}, {data(bo(true)), api.ErrDefine}, {data(in(1)) + "\x00", api.ErrDefine}, {"\x01\x02\x82\x00", api.ErrDefine}, {"\x01", api.ErrDefine}, {"\xff", api.ErrDefine},
	} {
		for _, alone := range []bool{true, false} {
			e := stored(t, api.Pair{Key: key(in(0)), Data: c.data})
			right := api.Result{Code: c.code}
			if !alone {
				good(t, e, 0, "BEGIN")
			}
			if c.code != api.OK {
				right.End = api.EndAbort
			} else if alone {
				right.End, right.Stamp = api.EndCommit, 3
			}
			want(t, fmt.Sprintf("P16.10: CREATE with the number %q, alone: %v", c.data, alone), doesOne(t, e, 0, create), right)
			want(t, "P16.10: what fails ends the transaction", e.Open(0), !alone && c.code == api.OK)
			if c.code == api.OK && alone {
				values, _ := bits.ReadRow(c.data)
				want(t, "P16.10: the next number", rowsOf(e)[0].Data, data(in(values[0].Int+1)))
				good(t, e, 0, "INSERT INTO t VALUES (1, 'x')")
				want(t, "P16.10: its rows", rowsOf(e)[3].Key, key(in(values[0].Int+1), in(1)))
			}
		}
	}
	// A definition of MaxData bytes with a number of one byte: with a longer one it fails, behind the insert of the number's row.
	long := stmt(t, columns("c", 15, 1))
	for i := range long.Cols {
		long.Cols[i].Name = string(rune('a'+i)) + many(31, "n")
	}
	long.Cols[14].Name = "last" + many(26, "n")
	long.Key = []string{long.Cols[0].Name}
	for last, code := range map[int64]api.Errno{1: api.OK, 126: api.OK, 127: api.ErrLong, math.MaxInt64 - 1: api.ErrLong} {
		e := stored(t, api.Pair{Key: key(in(0)), Data: data(in(last))})
		rs, _ := plan.Do(e, 0, long)
		want(t, fmt.Sprint("P16.10: a long definition behind the number ", last), rs[0].Code, code)
		ops := e.History().Txns[1].Ops
		if code != api.OK {
			want(t, "P16.10: it fails", rs[0], api.Result{Code: code, End: api.EndAbort})
			want(t, "P16.10: behind the number's row", list(ops[len(ops)-1].Kind, ops[len(ops)-1].Ver.Key == key(in(0), in(last+1))), list(api.OWrite, true))
		}
	}
	// A number's row that is there already.
	e := stored(t, api.Pair{Key: key(in(0)), Data: data(in(4))}, api.Pair{Key: key(in(0), in(5)), Data: ""})
	want(t, "P16.10: a number that was given", doesOne(t, e, 0, create), api.Result{Code: api.ErrDuplicate, End: api.EndAbort})
	want(t, "P16.10: nothing is left of it", len(e.Rows()), 2)
	e = stored(t, api.Pair{Key: key(in(0), in(1)), Data: ""})
	good(t, e, 0, "BEGIN")
	want(t, "P16.10: the first number was given", doesOne(t, e, 0, create), api.Result{Code: api.ErrDuplicate, End: api.EndAbort})
	// A definition that is none.
	for _, bad := range []string{"", "x", "\x00\x01\x01a\x06\x01\x00", "\x01\x01\x01a\x06\x01\x00\x00"} {
		e := stored(t, api.Pair{Key: key(in(0), tx("t")), Data: bad})
		for _, text := range []string{"SELECT * FROM t", "INSERT INTO t VALUES (1)", "UPDATE t SET b = 1", "DELETE FROM t", "DROP TABLE t", "SELECT z FROM t WHERE 1"} {
			want(t, fmt.Sprintf("P16.10: %s with the definition %q", text, bad), doesOne(t, e, 0, text), api.Result{Code: api.ErrDefine, End: api.EndAbort})
			good(t, e, 0, "BEGIN")
			want(t, fmt.Sprintf("P16.10: %s with the definition %q", text, bad), list(doesOne(t, e, 0, text), e.Open(0)), list(api.Result{Code: api.ErrDefine, End: api.EndAbort}, false))
		}
		want(t, "P16.10: CREATE asks only whether it is there", doesOne(t, e, 0, create), api.Result{Code: api.ErrExists, End: api.EndAbort})
	}
	// Rows that are none: they fail where they are read, whatever the condition says of them.
	u := define(t, create, 1)
	p, _ := plan.EncodeTable(u)
	one, _ := plan.RowPair(u, row(in(1), tx("x")))
	for _, bad := range []api.Pair{{Key: key(in(1), in(2)), Data: one.Data}, {Key: key(in(1), in(2)), Data: ""}, {Key: key(in(1)), Data: data(in(2), tx("x"))}, {Key: key(in(1), in(2), in(3)), Data: data(in(2), tx("x"))}, {Key: key(in(1), tx("x")), Data: data(in(2), tx("x"))}, {Key: key(in(1), in(2)), Data: data(in(2), in(2))}, {Key: "\x39\x01\xff", Data: data(in(2), tx("x"))}} {
		e := stored(t, p, one, bad)
		for _, text := range []string{"SELECT * FROM t", "SELECT a FROM t WHERE FALSE", "UPDATE t SET b = 'y'", "DELETE FROM t", "SELECT 1 / 0 FROM t LIMIT 0"} {
			want(t, fmt.Sprintf("P16.10: %s with the row %q", text, bad), doesOne(t, e, 0, text), api.Result{Code: api.ErrDefine, End: api.EndAbort})
		}
		want(t, "P16.10: a row that is not read", answers(t, e, 0, "SELECT b FROM t WHERE a = 1"), [][]api.Value{{tx("x")}})
		want(t, "P16.10: an insert reads none", good(t, e, 0, "INSERT INTO t VALUES (9, NULL)")[0].Count, 1)
		want(t, "P16.10: a drop takes out all keys", good(t, e, 0, "DROP TABLE t")[0].Count, 3)
		want(t, "P16.10: nothing is left", len(e.Rows()), 0)
	}
}
