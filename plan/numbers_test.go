package plan_test

import (
	"fmt"
	"testing"

	"strata/api"
	"strata/bits"
	"strata/engine"
	"strata/plan"
)

// turns are the statements of a session, one behind the other.
type turns struct {
	session int
	texts   []string
	run     *plan.Run
	results []api.Result
}

// step makes a step of the statement that is at work; false: none is left.
func (w *turns) step(t *testing.T, e *engine.Engine) bool {
	if w.run == nil {
		if len(w.texts) == 0 {
			return false
		}
		w.run = plan.NewRun(e, w.session, stmt(t, w.texts[0]))
		w.texts = w.texts[1:]
	}
	if w.run.Step() {
		w.results = append(w.results, w.run.Result())
		w.run = nil
	}
	return true
}

// numbersOf tells the numbers of the tables that were ever committed, by the log; a fault, if two have one.
func numbersOf(e *engine.Engine) (map[int64]string, string) {
	numbers := map[int64]string{}
	for _, c := range e.Commits(0) {
		for _, w := range c.Writes {
			u, code := plan.DecodeTable(api.Pair{Key: w.Key, Data: w.Data})
			if w.Kind != api.WritePut || code != api.OK {
				continue
			}
			if name, there := numbers[u.Number]; there {
				return nil, fmt.Sprintf("P16.10: %s and %s have the number %d", name, u.Name, u.Number)
			}
			numbers[u.Number] = u.Name
		}
	}
	return numbers, ""
}

// orphans tells how many rows belong to a table that is not there, and how many are none of their table's.
func orphans(e *engine.Engine) (count int, fault string) {
	tables := map[int64]api.Table{}
	for _, r := range e.Rows() {
		if u, code := plan.DecodeTable(api.Pair{Key: r.Key, Data: r.Data}); code == api.OK {
			tables[u.Number] = u
		}
	}
	for _, r := range e.Rows() {
		values, code := bits.ReadKey(r.Key)
		if code != api.OK || len(values) == 0 {
			return 0, fmt.Sprintf("P16.10: the key %q", r.Key)
		}
		u, there := tables[values[0].Int]
		switch {
		case values[0].Int == 0:
		case !there:
			count++
		default:
			if _, code := plan.PairRow(u, api.Pair{Key: r.Key, Data: r.Data}); code != api.OK {
				return 0, fmt.Sprintf("P16.10: table %s has the row %+v", u.Name, r)
			}
		}
	}
	return count, ""
}

// P16.10: tables made, dropped and made again in several sessions at a time, under each level: no two that were committed have one number, and no row is read as one of another table.
func TestNumbers(t *testing.T) {
	plots := [][][]string{
		{{"CREATE TABLE a (k INT, PRIMARY KEY (k))"}, {"CREATE TABLE b (k TEXT, PRIMARY KEY (k))"}},
		{{"CREATE TABLE a (k INT, PRIMARY KEY (k))", "INSERT INTO a VALUES (1), (2)"}, {"CREATE TABLE a (k TEXT, PRIMARY KEY (k))", "INSERT INTO a VALUES ('x')"}},
		{{"DROP TABLE z", "CREATE TABLE z (q TEXT, PRIMARY KEY (q))", "INSERT INTO z VALUES ('x')"}, {"INSERT INTO z VALUES (7)", "SELECT * FROM z", "DELETE FROM z"}},
		{{"DROP TABLE z"}, {"DROP TABLE z"}},
		{{"DROP TABLE z", "CREATE TABLE z (k INT, PRIMARY KEY (k))"}, {"DROP TABLE z", "CREATE TABLE z (q TEXT, PRIMARY KEY (q))"}, {"INSERT INTO z VALUES (9)", "CREATE TABLE a (k INT, PRIMARY KEY (k))"}},
		{{"CREATE TABLE a (k INT, PRIMARY KEY (k))", "DROP TABLE a"}, {"CREATE TABLE b (k INT, PRIMARY KEY (k))", "INSERT INTO b VALUES (1)"}, {"CREATE TABLE c (k INT, PRIMARY KEY (k))", "INSERT INTO c VALUES (1)"}},
	}
	var codes, made met
	inBatches(t, 6000, func(m *maker) string {
		e := roomyEngine(t, 3)
		if !m.one(4) {
			good(t, e, 0, "CREATE TABLE z (k INT, PRIMARY KEY (k))", "INSERT INTO z VALUES (1), (2), (3)")
		}
		serial := m.one(3)
		var ws []*turns
		for session, texts := range pick(m, plots...) {
			level := pick(m, append(levels(), "")...)
			if serial {
				level = "BEGIN SERIALIZABLE"
			}
			w := &turns{session: session, texts: texts}
			if level != "" {
				w.texts = append(append([]string{level}, texts...), pick(m, "COMMIT", "COMMIT", "COMMIT", "ROLLBACK"))
			}
			ws = append(ws, w)
		}
		pace := pick(m, 1, 5, 20)
		for left := len(ws); left > 0; {
			left = 0
			w := pick(m, ws...)
			for range 1 + m.Intn(pace) {
				w.step(t, e)
			}
			for _, w := range ws {
				if w.run != nil || len(w.texts) > 0 {
					left++
				}
			}
		}
		numbers, fault := numbersOf(e)
		if fault != "" {
			return fault
		}
		made[len(numbers)].Add(1)
		count, fault := orphans(e)
		if fault != "" {
			return fault
		}
		if serial && count > 0 {
			return fmt.Sprintf("P0.4: %d rows of tables that are not there: %+v", count, e.Rows())
		}
		for _, w := range ws {
			for _, r := range w.results {
				codes[r.Code].Add(1)
			}
		}
		if e.Base().Misses() != 0 {
			return "P0.3: misses"
		}
		return ""
	})
	codes.atLeast(t, 30, api.OK, api.ErrTable, api.ErrExists, api.ErrConflict, api.ErrNoTx)
	made.atLeast(t, 100, 0, 1, 2)
}

// P16.10: under READ COMMITTED the number that was asked for may be an older one than what the update meets: then the number's insert is a duplicate.
func TestNumbersUnderReadCommitted(t *testing.T) {
	seen := map[api.Errno]int{}
	for n := 1; n < 80; n++ {
		e := roomyEngine(t, 2)
		good(t, e, 0, "CREATE TABLE z (k INT, PRIMARY KEY (k))", "BEGIN READ COMMITTED")
		m := plan.NewRun(e, 0, stmt(t, "CREATE TABLE a (k INT, PRIMARY KEY (k))"))
		done := false
		for range n {
			done = done || m.Step()
		}
		other := doesOne(t, e, 1, "CREATE TABLE b (k INT, PRIMARY KEY (k))")
		for !done {
			done = m.Step()
		}
		r := m.Result()
		seen[r.Code]++
		want(t, fmt.Sprint("P16.10: behind ", n, " steps"), list(r, e.Open(0)), list(map[bool]api.Result{true: {}, false: {Code: r.Code, End: api.EndAbort}}[r.Code == api.OK], r.Code == api.OK))
		if e.Open(0) {
			good(t, e, 0, "COMMIT")
		}
		if _, fault := numbersOf(e); fault != "" {
			t.Fatal(fault)
		}
		if other.Code == api.OK {
			good(t, e, 1, "INSERT INTO b VALUES (1), (2)")
			if r := doesOne(t, e, 1, "SELECT * FROM a"); r.Count != 0 {
				t.Fatalf("P16.10: behind %d steps two tables share their rows", n)
			}
		}
	}
	if seen[api.OK] == 0 || seen[api.ErrDuplicate] == 0 {
		t.Errorf("P16.10: the codes are %v", seen)
	}
}
