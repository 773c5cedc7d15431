package plan_test

import (
	"fmt"
	"strings"
	"testing"

	"strata/api"
	"strata/engine"
	"strata/plan"
)

// levels are the four, as they are written.
func levels() []string {
	return []string{"BEGIN READ COMMITTED", "BEGIN SNAPSHOT", "BEGIN REPEATABLE READ", "BEGIN SERIALIZABLE"}
}

// filled is an engine with the table t of three rows.
func filled(t *testing.T) *engine.Engine {
	t.Helper()
	e := roomyEngine(t, 2)
	good(t, e, 0, "CREATE TABLE t (a INT, b TEXT, c INT NOT NULL, PRIMARY KEY (a))", "INSERT INTO t VALUES (2, 'two', 20), (1, 'one', 10), (3, NULL, 30)")
	return e
}

// P16.10: each kind of statement, alone and in a transaction of each level: what it answers, and what stands behind it.
func TestEachStatement(t *testing.T) {
	all := [][]api.Value{row(in(1), tx("one"), in(10)), row(in(2), tx("two"), in(20)), row(in(3), null, in(30))}
	abc := []string{"a", "b", "c"}
	for _, c := range []struct {
		text  string
		right api.Result
		rows  [][]api.Value // of t, behind it
	}{
		{"SELECT * FROM t", api.Result{Names: abc, Rows: all, Count: 3}, all},
		{"SELECT c + 1 AS n FROM t WHERE a = 2", api.Result{Names: []string{"n"}, Rows: [][]api.Value{{in(21)}}, Count: 1}, all},
		{"SELECT a FROM t WHERE a = 7", api.Result{Names: []string{"a"}}, all},
		{"SELECT COUNT(*), SUM(c) FROM t WHERE a BETWEEN 2 AND 9", api.Result{Names: []string{"COUNT(*)", "SUM(c)"}, Rows: [][]api.Value{{in(2), in(50)}}, Count: 1}, all},
		{"SELECT a FROM t ORDER BY c DESC LIMIT 1", api.Result{Names: []string{"a"}, Rows: [][]api.Value{{in(3)}}, Count: 1}, all},
		{"INSERT INTO t VALUES (5, 'five', 50), (4, 'four', 40)", api.Result{Count: 2}, [][]api.Value{all[0], all[1], all[2], row(in(4), tx("four"), in(40)), row(in(5), tx("five"), in(50))}},
		{"INSERT INTO t (c, a) VALUES (1 + 2, -(4))", api.Result{Count: 1}, [][]api.Value{row(in(-4), null, in(3)), all[0], all[1], all[2]}},
		{"UPDATE t SET b = b || '!', c = c + a", api.Result{Count: 3}, [][]api.Value{row(in(1), tx("one!"), in(11)), row(in(2), tx("two!"), in(22)), row(in(3), null, in(33))}},
		{"UPDATE t SET c = length(b), b = 'n' || 'ew' WHERE a = 1", api.Result{Count: 1}, [][]api.Value{row(in(1), tx("new"), in(3)), all[1], all[2]}},
		{"UPDATE t SET b = NULL WHERE a > 7", api.Result{}, all},
		{"UPDATE t SET b = b", api.Result{Count: 3}, all},
		{"UPDATE t SET b = 'x' WHERE b <> 'one'", api.Result{Count: 1}, [][]api.Value{all[0], row(in(2), tx("x"), in(20)), all[2]}},
		{"DELETE FROM t WHERE b IS NULL", api.Result{Count: 1}, all[:2]},
		{"DELETE FROM t WHERE a = 2", api.Result{Count: 1}, [][]api.Value{all[0], all[2]}},
		{"DELETE FROM t WHERE NULL", api.Result{}, all},
		{"DELETE FROM t", api.Result{Count: 3}, nil},
		{"CREATE TABLE u (x INT, PRIMARY KEY (x))", api.Result{}, all},
	} {
		e := filled(t)
		clock := e.Floor() - 1
		alone := c.right
		alone.Stamp, alone.End = clock+2, api.EndCommit
		want(t, "P16.10: alone: "+c.text, doesOne(t, e, 0, c.text), alone)
		want(t, "P16.10: behind "+c.text, answers(t, e, 1, "SELECT * FROM t"), c.rows)
		for _, level := range levels() {
			e := filled(t)
			good(t, e, 0, level)
			want(t, "P16.10: "+level+": "+c.text, list(doesOne(t, e, 0, c.text), e.Open(0)), list(c.right, true))
			want(t, "P16.10: its own: "+level+": "+c.text, answers(t, e, 0, "SELECT * FROM t"), c.rows)
			want(t, "P16.10: not yet another's: "+level+": "+c.text, answers(t, e, 1, "SELECT * FROM t"), all)
			want(t, "P16.10: commit: "+level+": "+c.text, good(t, e, 0, "COMMIT")[0].End, api.EndCommit)
			want(t, "P16.10: behind "+c.text, answers(t, e, 1, "SELECT * FROM t"), c.rows)
		}
	}
	e := filled(t)
	want(t, "P16.10: DROP", good(t, e, 0, "DROP TABLE t")[0].Count, 3)
	want(t, "P16.10: dropped", doesOne(t, e, 1, "SELECT * FROM t"), api.Result{Code: api.ErrTable, End: api.EndAbort})
}

// P16.10: what is refused leaves the transaction as it is; what fails ends it.
func TestRefusedAndFailed(t *testing.T) {
	for _, c := range []struct {
		text    string
		code    api.Errno
		refused bool
	}{
		{"CREATE TABLE t (z INT, PRIMARY KEY (z))", api.ErrExists, true}, {"CREATE TABLE u (z INT, z INT, PRIMARY KEY (z))", api.ErrColumn, true},
		{"SELECT * FROM u", api.ErrTable, true}, {"DROP TABLE u", api.ErrTable, true}, {"INSERT INTO u VALUES (z)", api.ErrTable, true}, {"UPDATE u SET a = 1", api.ErrTable, true}, {"DELETE FROM u", api.ErrTable, true},
		{"SELECT z FROM t", api.ErrColumn, true}, {"SELECT a FROM t WHERE c", api.ErrType, true}, {"SELECT a, COUNT(*) FROM t", api.ErrArity, true}, {"INSERT INTO t VALUES (1)", api.ErrArity, true}, {"INSERT INTO t VALUES (1, 1, 1)", api.ErrType, true}, {"INSERT INTO t (z) VALUES (1)", api.ErrColumn, true}, {"UPDATE t SET a = 1", api.ErrPrimary, true}, {"UPDATE t SET b = 1", api.ErrType, true}, {"DELETE FROM t WHERE a", api.ErrType, true},
		{"SELECT 1 / (a - 3) FROM t", api.ErrDivide, false}, {"SELECT a FROM t WHERE 1 / (a - 3) = 1", api.ErrDivide, false}, {"SELECT SUM(9223372036854775797 + c) FROM t", api.ErrOver, false},
		{"INSERT INTO t VALUES (8, 'x', 1), (9, 'x', 1 / 0)", api.ErrDivide, false}, {"INSERT INTO t VALUES (9, 'x', NULL)", api.ErrNotNull, false}, {"INSERT INTO t (a) VALUES (9)", api.ErrNotNull, false}, {"INSERT INTO t (c) VALUES (9)", api.ErrNotNull, false}, {"INSERT INTO t VALUES (9, '" + many(600, "x") + "', 1)", api.ErrKey, false}, {"INSERT INTO t VALUES (9, '" + many(4000, "x") + "' || '" + many(4000, "x") + "', 1)", api.ErrLong, false},
		{"INSERT INTO t VALUES (1, 'x', 1)", api.ErrDuplicate, false}, {"INSERT INTO t VALUES (8, 'x', 1), (8, 'y', 1)", api.ErrDuplicate, false}, {"INSERT INTO t VALUES (8, 'x', 1), (2, 'y', 1)", api.ErrDuplicate, false}, {"INSERT INTO t VALUES (1, 'x', 1), (9, 'x', NULL)", api.ErrNotNull, false},
		{"UPDATE t SET c = NULL", api.ErrNotNull, false}, {"UPDATE t SET c = 1 / (a - 3)", api.ErrDivide, false}, {"UPDATE t SET c = 1 WHERE 1 / (a - 3) = 9", api.ErrDivide, false}, {"UPDATE t SET b = '" + many(600, "x") + "' WHERE a = 1", api.ErrKey, false}, {"UPDATE t SET c = c + 9223372036854775797 WHERE a = 1", api.OK, false}, {"UPDATE t SET c = c + 9223372036854775797", api.ErrOver, false},
		{"DELETE FROM t WHERE 1 / (a - 3) = 9", api.ErrDivide, false}, {"DELETE FROM t WHERE 1 / (a - 3) = 9 AND a < 3", api.OK, false},
	} {
		for _, level := range levels() {
			e := filled(t)
			rows := rowsOf(e)
			good(t, e, 0, level, "UPDATE t SET b = 'mine' WHERE a = 1", "INSERT INTO t VALUES (6, NULL, 6)")
			r := doesOne(t, e, 0, c.text)
			switch {
			case c.code == api.OK:
				want(t, "P16.10: "+level+": "+c.text, list(r.Code, r.End, e.Open(0)), list(api.OK, api.EndNone, true))
			case c.refused:
				want(t, "P16.10: refused: "+level+": "+c.text, list(r, e.Open(0)), list(api.Result{Code: c.code}, true))
				want(t, "P16.10: what it did before is there", answers(t, e, 0, "SELECT b FROM t WHERE a = 1 OR a = 6"), [][]api.Value{{tx("mine")}, {null}})
				good(t, e, 0, "COMMIT")
				want(t, "P16.10: and is committed", answers(t, e, 0, "SELECT b FROM t WHERE a = 1 OR a = 6"), [][]api.Value{{tx("mine")}, {null}})
			default:
				want(t, "P16.10: failed: "+level+": "+c.text, list(r, e.Open(0)), list(api.Result{Code: c.code, End: api.EndAbort}, false))
				want(t, "P16.10: nothing is left of it", rowsOf(e), rows)
				want(t, "P16.10: no transaction is left", doesOne(t, e, 0, "COMMIT"), api.Result{Code: api.ErrNoTx})
			}
		}
		if c.code != api.OK {
			e := filled(t)
			rows := rowsOf(e)
			end := api.EndAbort
			if strings.HasPrefix(c.text, "CREATE TABLE u") {
				end = api.EndNone // no transaction was begun
			}
			want(t, "P16.10: alone: "+c.text, list(doesOne(t, e, 0, c.text), e.Open(0)), list(api.Result{Code: c.code, End: end}, false))
			want(t, "P16.10: nothing is left of it", rowsOf(e), rows)
		}
	}
}

// P16.10: calls that are refused by what others do: the transaction is ended by them.
func TestConflicts(t *testing.T) {
	e := filled(t)
	good(t, e, 1, "BEGIN", "UPDATE t SET c = 0 WHERE a = 2")
	for _, text := range []string{"UPDATE t SET c = 1", "DELETE FROM t", "UPDATE t SET c = 1 WHERE a = 2", "DROP TABLE t"} {
		want(t, "P16.10: alone: "+text, doesOne(t, e, 0, text), api.Result{Code: api.ErrConflict, End: api.EndAbort})
		good(t, e, 0, "BEGIN")
		want(t, "P16.10: in a transaction: "+text, list(doesOne(t, e, 0, text), e.Open(0)), list(api.Result{Code: api.ErrConflict, End: api.EndAbort}, false))
	}
	good(t, e, 1, "INSERT INTO t VALUES (9, NULL, 9)")
	want(t, "P16.10: an insert of another's key", doesOne(t, e, 0, "INSERT INTO t VALUES (8, NULL, 8), (9, NULL, 8)"), api.Result{Code: api.ErrConflict, End: api.EndAbort})
	good(t, e, 1, "CREATE TABLE u (x INT, PRIMARY KEY (x))")
	want(t, "P16.10: two tables at a time", doesOne(t, e, 0, "CREATE TABLE v (x INT, PRIMARY KEY (x))"), api.Result{Code: api.ErrConflict, End: api.EndAbort})
	want(t, "P16.10: the table is not there yet", doesOne(t, e, 0, "SELECT * FROM u").Code, api.ErrTable)
	good(t, e, 1, "COMMIT")
	good(t, e, 0, "CREATE TABLE v (x INT, PRIMARY KEY (x))")
	// A serializable one that is refused by its own commit.
	good(t, e, 0, "BEGIN SERIALIZABLE", "SELECT * FROM t", "INSERT INTO v VALUES (1)")
	good(t, e, 1, "INSERT INTO t VALUES (77, NULL, 7)")
	want(t, "P16.10: COMMIT", list(doesOne(t, e, 0, "COMMIT"), e.Open(0)), list(api.Result{Code: api.ErrPhantom, End: api.EndAbort}, false))
	good(t, e, 0, "BEGIN REPEATABLE READ", "SELECT * FROM t WHERE a = 77")
	good(t, e, 1, "DELETE FROM t WHERE a = 77")
	want(t, "P16.10: COMMIT", doesOne(t, e, 0, "COMMIT"), api.Result{Code: api.ErrRead, End: api.EndAbort})
}

// P16.10: rows that are gone between the reading and the change are passed over, and not counted; a DROP that meets one fails.
func TestRowsThatAreGone(t *testing.T) {
	for _, c := range []struct {
		text  string
		right api.Result
		left  int
	}{
		{"UPDATE t SET c = 0", api.Result{Count: 2}, 2}, {"DELETE FROM t", api.Result{Count: 2}, 0}, {"UPDATE t SET c = 0 WHERE a = 2", api.Result{}, 2}, {"DELETE FROM t WHERE a = 2", api.Result{}, 2}, {"DROP TABLE t", api.Result{Code: api.ErrNotFound, End: api.EndAbort}, 2},
	} {
		met := false
		for n := 1; n < 60; n++ { // where the other one comes in between
			e := filled(t)
			good(t, e, 0, "BEGIN READ COMMITTED")
			m := plan.NewRun(e, 0, stmt(t, c.text))
			done := false
			for range n {
				done = done || m.Step()
			}
			if done {
				break
			}
			other := doesOne(t, e, 1, "DELETE FROM t WHERE a = 2")
			for !m.Step() {
			}
			r := m.Result()
			if other.Code != api.OK || fmt.Sprint(r) != fmt.Sprint(c.right) {
				continue // the other one was refused, or came too early or too late
			}
			met = true
			if r.Code == api.OK {
				good(t, e, 0, "COMMIT")
			}
			if r := doesOne(t, e, 1, "SELECT * FROM t"); r.Code != api.OK || r.Count != c.left {
				t.Errorf("P16.10: %s, behind %d steps a row is gone: %+v", c.text, n, r)
			}
		}
		if !met {
			t.Errorf("P16.10: %s: no row was gone between the reading and the change", c.text)
		}
	}
}

// looked tells the last look of the last transaction: the range that was read, or the key.
func looked(e *engine.Engine) string {
	h := e.History()
	ops := h.Txns[len(h.Txns)-1].Ops
	last := ops[len(ops)-1]
	if last.Kind == api.ORead {
		return fmt.Sprintf("get %q", last.Ver.Key)
	}
	return fmt.Sprintf("%q %q", last.Ver.Key, last.Hi)
}

// P16.10: what is read, by a get or a scan, with keys up to MaxKey bytes and beyond.
func TestReading(t *testing.T) {
	e := roomyEngine(t, 1)
	good(t, e, 0, "CREATE TABLE t (b TEXT, a INT, PRIMARY KEY (b, a))", "INSERT INTO t VALUES ('a', 1), ('a', 2), ('z', 1)", "INSERT INTO t VALUES ('"+many(150, "k")+"', 1), ('"+many(154, "k")+"', 0)")
	name := fmt.Sprintf("get %q", key(in(0), tx("t"))) // the last look, where no row is looked for
	prefix := "\x39\x01\x50"
	k := func(n int) string { return "'" + many(n, "k") + "'" }
	for _, c := range []struct {
		where string
		count int
		seen  string
	}{
		{"TRUE", 5, fmt.Sprintf("%q %q", "\x39\x01", "\x39\x02")}, {"b = 'a' AND a = 2", 1, fmt.Sprintf("get %q", key(in(1), tx("a"), in(2)))}, {"b = 'a' AND a = 3", 0, fmt.Sprintf("%q %q", key(in(1), tx("a"), in(3)), key(in(1), tx("a"), in(3))+"\x00")},
		{"b = 'a'", 2, fmt.Sprintf("%q %q", prefix+"a\x00\x01", prefix+"a\x00\x02")}, {"b > 'a' AND b < 'z'", 2, fmt.Sprintf("%q %q", prefix+"a\x00\x02", prefix+"z\x00\x01")}, {"b > 'z' AND b < 'a'", 0, fmt.Sprintf("%q %q", prefix+"z\x00\x02", prefix+"a\x00\x01")},
		{"b = " + k(154) + " AND a = 0", 1, fmt.Sprintf("get %q", prefix+many(154, "k")+"\x00\x01\x38")}, // just MaxKey bytes
		{"b = " + k(154) + " AND a = 1", 0, name},                                                        // one more: no call
		{"b = " + k(200) + " AND a = 1", 0, name},
		{"b = " + k(155), 0, fmt.Sprintf("%q %q", prefix+many(155, "k")+"\x00\x01", prefix+many(155, "k")+"\x00\x02")}, // bounds of just MaxKey
		{"b = " + k(156), 0, fmt.Sprintf("%q %q", prefix+many(156, "k")+"\x00", prefix+many(156, "k")+"\x01")},         // cut ahead of the last byte: After of what is left
		{"b = " + k(157), 0, fmt.Sprintf("%q %q", prefix+many(157, "k"), prefix+many(156, "k")+"l")},                   // cut within the end of the text
		{"b = " + k(4096), 0, fmt.Sprintf("%q %q", prefix+many(157, "k"), prefix+many(156, "k")+"l")},                  // and within the text
		{"b > " + k(200), 1, fmt.Sprintf("%q %q", prefix+many(157, "k"), "\x39\x02")},
		{"b < " + k(200), 4, fmt.Sprintf("%q %q", "\x39\x01", prefix+many(156, "k")+"l")},
		{"b >= " + k(200) + " AND b <= 'z'", 1, fmt.Sprintf("%q %q", prefix+many(157, "k"), prefix+"z\x00\x02")},
		{"b < '" + many(3, "k") + many(200, "\xff") + "'", 4, fmt.Sprintf("%q %q", "\x39\x01", prefix+"kkl")}, // the cut ends with ff: After drops them
	} {
		text := "SELECT * FROM t WHERE " + c.where
		want(t, "P16.10: "+text, good(t, e, 0, text)[0].Count, c.count)
		want(t, fmt.Sprintf("P16.10: the reading of %.60s (%d bytes)", text, len(text)), looked(e), c.seen)
	}
	r := doesOne(t, e, 0, "INSERT INTO t VALUES ("+k(154)+", 1)")
	want(t, "P16.10: a key that is too long", r, api.Result{Code: api.ErrKey, End: api.EndAbort})
	want(t, "P16.10: deletes by long keys", list(good(t, e, 0, "DELETE FROM t WHERE b = "+k(300)+" AND a = 1")[0].Count, good(t, e, 0, "DELETE FROM t WHERE b <= "+k(300))[0].Count), list(0, 4))
}

// P16.10: of a statement nothing is kept but a copy.
func TestWrittenOver(t *testing.T) {
	for _, text := range []string{"CREATE TABLE u (a INT, b TEXT NOT NULL, PRIMARY KEY (b, a))", "INSERT INTO t (c, a) VALUES (1 + 1, 7), (2 * 3, 8)", "SELECT a + 1, b AS n, c FROM t WHERE a > 1 AND c < 99 ORDER BY c DESC, a LIMIT 7", "UPDATE t SET b = b || 'x', c = c + 1 WHERE a < 3", "DELETE FROM t WHERE a IN (1, 2)", "DROP TABLE t", "BEGIN SERIALIZABLE"} {
		for steps := range 3 { // ahead of the first step, behind it, behind two
			one, other := filled(t), filled(t)
			right := doesOne(t, one, 0, text)
			s := stmt(t, text)
			m := plan.NewRun(other, 0, s)
			for range steps {
				m.Step()
			}
			spoilStmt(&s)
			for range 10000 {
				if m.Step() {
					break
				}
			}
			want(t, "P0.1: written over: "+text, list(m.Result(), rowsOf(other)), list(right, rowsOf(one)))
		}
	}
}

// spoilStmt writes over all that a statement points to.
func spoilStmt(s *api.Stmt) {
	clear(s.Where)
	for _, values := range s.Rows {
		for _, e := range values {
			clear(e)
		}
		clear(values)
	}
	for _, item := range s.Items {
		clear(item.Of)
	}
	clear(s.Cols)
	clear(s.Key)
	clear(s.Names)
	clear(s.Rows)
	clear(s.Items)
	clear(s.Order)
}

// P16.11: a budget that is used up: the session stays as it is then.
func TestBudget(t *testing.T) {
	e := roomyEngine(t, 2)
	good(t, e, 0, "CREATE TABLE t (k INT, v INT, PRIMARY KEY (k))", "INSERT INTO t VALUES (1, 10)", "BEGIN", "UPDATE t SET v = 11")
	m := plan.NewRun(e, 0, stmt(t, "COMMIT"))
	for range 5 { // its end is drawn; it is not decided yet
		m.Step()
	}
	ss := []api.Stmt{stmt(t, "BEGIN"), stmt(t, "SELECT v FROM t"), stmt(t, "COMMIT"), stmt(t, "SELECT 1 FROM t")}
	before := e.Accesses()
	rs, code := plan.Do(e, 1, ss...)
	want(t, "P16.11: a commit that waits", list(len(rs), code, rs[1].Rows, e.Busy(1)), list(2, api.ErrBudget, [][]api.Value{{in(11)}}, true))
	if made := e.Accesses() - before; made < api.MaxPlay || made > api.MaxPlay+100 {
		t.Errorf("P16.11: %d accesses", made)
	}
	_, code = plan.Do(e, 1, ss[3])
	want(t, "P16.11: it has the call still", code, api.ErrBusy)
	for !m.Step() {
	}
	want(t, "P16.10: the other's commit", m.Result().End, api.EndCommit)
	if done, _ := e.Run(1, 1000); !done {
		t.Fatal("P16.11: the call is not done")
	}
	a, _ := e.Take(1)
	want(t, "P16.11: the call goes on", list(a.Code, e.Open(1)), list(api.OK, false))
	rs, code = plan.Do(e, 1, ss[0], ss[1], ss[2])
	want(t, "P16.11: and the session", list(len(rs), code, rs[2].End), list(3, api.OK, api.EndCommit))
}

// P16.11: a statement of just MaxPlay steps is done, one of one more is not.
func TestBudgetToTheStep(t *testing.T) {
	s := stmt(t, "INSERT INTO t VALUES (1), (2), (3), (4), (5), (6)")
	first := key(in(1), in(1))
	// In one bucket each row costs each walk behind it a step; a version of the first key that was given up costs more.
	made := func(rows, given int) *engine.Engine {
		var list []api.Row
		for i := range rows {
			list = append(list, api.Row{Key: fmt.Sprintf("z%05d", i)})
		}
		e := engineOf(t, api.Config{Slots: api.MaxSlots, Buckets: 1, TxSlots: 30, Sessions: 1}, list...)
		good(t, e, 0, "CREATE TABLE t (k INT, PRIMARY KEY (k))")
		for range given {
			calls(t, e, 0, begin(api.Snapshot), insert(first, ""), abort())
		}
		good(t, e, 0, "BEGIN")
		return e
	}
	steps := func(rows, given int) int {
		m, n := plan.NewRun(made(rows, given), 0, s), 1
		for ; !m.Step(); n++ {
		}
		return n
	}
	base := steps(100, 0)
	each, more := steps(101, 0)-base, steps(100, 1)-base
	for target, code := range map[int]api.Errno{api.MaxPlay - 1: api.OK, api.MaxPlay: api.OK, api.MaxPlay + 1: api.ErrBudget} {
		given := 0
		for (target-base-given*more)%each != 0 {
			given++
		}
		rows := 100 + (target-base-given*more)/each
		want(t, "how many steps it takes", steps(rows, given), target)
		e := made(rows, given)
		rs, e2 := plan.Do(e, 0, s, stmt(t, "ROLLBACK"))
		want(t, fmt.Sprintf("P16.11: a statement of %d steps", target), list(len(rs), e2, e.Busy(0)), list(map[api.Errno]int{api.OK: 2}[code], code, code != api.OK))
	}
}
