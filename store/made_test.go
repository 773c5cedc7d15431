package store_test

import (
	"fmt"
	"strings"
	"testing"

	"strata/api"
	"strata/store"
	"strata/tongue"
)

// made_test.go: scripts that are made up, played by the store and by the plain one.

// setup is one that New takes, mostly.
func (m *maker) setup() api.Setup {
	s := api.Setup{
		Engine: api.Config{
			Slots:    pick(m, 8, 20, 64, 64, 200),
			Buckets:  1 + m.Intn(4),
			TxSlots:  pick(m, 2, 4, 8, 8, 20),
			Sessions: 1 + m.Intn(4),
			Coop:     pick(m, 0, 0, 1, 4),
		},
		Device:  pick(m, 400, 1000, 3000, 8000, 65536, 65536),
		Segment: pick(m, 256, 300, 1000, 4096),
		Batch:   1 + m.Intn(5),
		Limit:   1 + m.Intn(6),
		Workers: 1 + m.Intn(4),
	}
	if m.one(8) {
		s.Engine.Clock = pick[uint64](m, 1, 100, api.MaxTime-1000, api.MaxTime-50, api.MaxTime-2, api.MaxTime)
	}
	return s
}

// statement of a session, over the tables t and u.
func (m *maker) statement() string {
	k, v := m.Intn(5), m.Intn(9)
	switch m.Intn(24) {
	case 0, 1:
		return "CREATE TABLE t (k INT, v INT, PRIMARY KEY (k))"
	case 2:
		return "CREATE TABLE u (name TEXT, sure BOOL, n INT NOT NULL, PRIMARY KEY (name, n))"
	case 3:
		return pick(m, "DROP TABLE u", "DROP TABLE t")
	case 4, 5, 6:
		return fmt.Sprintf("INSERT INTO t VALUES (%d, %d)", k, v)
	case 7:
		return fmt.Sprintf("INSERT INTO t VALUES (%d, %d), (%d, NULL)", k, v, k+1)
	case 8:
		return fmt.Sprintf("INSERT INTO u (n, name) VALUES (%d, '%s')", v, pick(m, "", "a", "it''s", "\n", "\xff"))
	case 9, 10:
		return fmt.Sprintf("UPDATE t SET v = v + %d WHERE k = %d", v, k)
	case 11:
		return fmt.Sprintf("UPDATE t SET v = %d / (v - 3)", v)
	case 12:
		return fmt.Sprintf("DELETE FROM t WHERE k >= %d", k)
	case 13:
		return fmt.Sprintf("DELETE FROM u WHERE n < %d", v)
	case 14, 15:
		return pick(m, "SELECT * FROM t", "SELECT k, v * 2 AS w FROM t WHERE k > 1 ORDER BY v DESC", "SELECT COUNT(*), SUM(v) FROM t", "SELECT * FROM u", "SELECT nobody FROM t")
	case 16, 17, 18:
		return "BEGIN" + pick(m, "", " READ COMMITTED", " SNAPSHOT", " REPEATABLE READ", " SERIALIZABLE")
	case 19, 20, 21:
		return "COMMIT"
	case 22:
		return "ROLLBACK"
	}
	return fmt.Sprintf("SELECT v FROM t WHERE k = %d", k)
}

// bytes of a schedule.
func (m *maker) bytes(workers int) string {
	var text strings.Builder
	for range m.Intn(pick(m, 3, 12)) {
		who := m.Intn(workers + 1)
		switch m.Intn(9) {
		case 0, 1:
			text.WriteByte(byte(who))
		case 2, 3, 4:
			text.Write([]byte{byte(32 + who), byte(m.Intn(pick(m, 4, 60, 256)))})
		case 5:
			text.WriteByte(byte(64 + who))
		case 6:
			text.WriteByte(byte(96 + m.Intn(32)))
		case 7:
			text.WriteByte(byte(128 + who))
		case 8:
			text.WriteByte(pick(m, 160, 160, byte(m.Intn(256))))
		}
	}
	return text.String()
}

// command is a line of a script. Of those that bring the store down, or cut its power, there are not too many.
func (m *maker) command(s api.Setup) string {
	switch m.Intn(40) {
	case 0, 1, 2, 3, 4, 5, 6:
		return "DRAIN"
	case 7, 8, 9, 10, 11:
		return fmt.Sprintf("PLAY x'%x'", m.bytes(s.Engine.Sessions+1))
	case 12, 13:
		return fmt.Sprintf("TICK %d", m.Intn(s.Engine.Buckets+2))
	case 14:
		return "FLUSH"
	case 15, 16:
		return "SYNC"
	case 17, 18:
		return "CHECKPOINT"
	case 19:
		return fmt.Sprintf("MERGE %d", pick(m, 0, 0, 1, 2, 9))
	case 20:
		return "CHECK"
	case 21:
		return pick(m, "RESTART", "CRASH")
	case 22:
		return m.crash()
	case 23:
		if m.one(2) {
			return fmt.Sprintf("CUT %d", m.Intn(30))
		}
	}
	return fmt.Sprintf("@%d %s", 1+m.Intn(s.Engine.Sessions), m.statement())
}

// crash keeps something.
func (m *maker) crash() string {
	var keep []string
	for range m.Intn(5) {
		keep = append(keep, fmt.Sprint(m.Intn(pick(m, 2, 40, 3000))))
	}
	return "CRASH " + strings.Join(keep, ", ")
}

// story is a row of commands that belong together, in which others may come between.
func (m *maker) story(s api.Setup) []string {
	one, other := 1+m.Intn(s.Engine.Sessions), 1+m.Intn(s.Engine.Sessions)
	k := m.Intn(5)
	switch m.Intn(5) {
	case 0: // what was read changes, or there is a new row in what was looked through
		return []string{
			fmt.Sprintf("@%d BEGIN %s", one, pick(m, "SERIALIZABLE", "SERIALIZABLE", "REPEATABLE READ", "SNAPSHOT", "READ COMMITTED")),
			fmt.Sprintf("@%d SELECT * FROM t WHERE k %s %d", one, pick(m, "=", ">=", "<"), k),
			"DRAIN",
			fmt.Sprintf("@%d %s", other, pick(m, fmt.Sprintf("UPDATE t SET v = v + 1 WHERE k >= %d", k), fmt.Sprintf("INSERT INTO t VALUES (%d, 0)", m.Intn(9)))),
			"DRAIN",
			fmt.Sprintf("@%d COMMIT", one),
			"DRAIN",
		}
	case 1: // the power goes in the midst of something
		return []string{
			fmt.Sprintf("@%d UPDATE t SET v = v + 1", one),
			"DRAIN",
			fmt.Sprintf("CUT %d", m.Intn(pick(m, 3, 25))),
			pick(m, "FLUSH", "SYNC", "CHECKPOINT", "CHECKPOINT", "RESTART", "RESTART"),
			pick(m, "CHECKPOINT", "SYNC", m.crash()),
			"RESTART",
			m.crash(),
			"RESTART",
		}
	case 2: // many commits, and never a sync
		row := []string{fmt.Sprintf("CUT %d", pick(m, 0, 1, 100, 100))}
		for range 2 + m.Intn(20) {
			row = append(row, fmt.Sprintf("@%d UPDATE t SET v = %d", one, m.Intn(1000)))
		}
		return append(row, pick(m, "DRAIN", "PLAY x'a0'", fmt.Sprintf("PLAY x'%02x%02x'", 127+one, 127+one)), "FLUSH")
	case 3: // a queue gets full
		row := []string{fmt.Sprintf("PLAY x'%s'", strings.Repeat("40", m.Intn(66)))}
		for range m.Intn(5) {
			row = append(row, pick(m, "TICK 1", "PLAY x'4040'", fmt.Sprintf("@%d COMMIT", one)))
		}
		return row
	}
	var row []string // something to merge
	for range 2 + m.Intn(3) {
		row = append(row, fmt.Sprintf("@%d UPDATE t SET v = %d WHERE k = %d", one, m.Intn(9), m.Intn(5)), "DRAIN", "CHECKPOINT")
	}
	return append(row, fmt.Sprintf("MERGE %d", m.Intn(3)), "CHECKPOINT", "RESTART")
}

// teller makes up a script, command by command.
type teller struct {
	*maker
	setup api.Setup
	ahead []string
}

func newTeller(m *maker, s api.Setup) *teller {
	return &teller{m, s, []string{"@1 CREATE TABLE t (k INT, v INT, PRIMARY KEY (k))", "@1 INSERT INTO t VALUES (1, 1), (2, 2), (3, 3)", "DRAIN"}}
}

// next is the next command, of a store that is down or not: one that is comes up again soon.
func (m *teller) next(down bool) string {
	switch {
	case down && m.one(2):
		return pick(m.maker, "RESTART", "RESTART", m.crash())
	case len(m.ahead) == 0 && m.one(12):
		m.ahead = m.story(m.setup)
	}
	if len(m.ahead) == 0 || m.one(12) {
		return m.command(m.setup)
	}
	c := m.ahead[0]
	m.ahead = m.ahead[1:]
	return c
}

// commands reads a line.
func commands(line string) []api.Command {
	cs, code, at := tongue.Parse(line + ";")
	if code != api.OK {
		panic(fmt.Sprint(line, ": ", code, " at ", at))
	}
	return cs
}

// P17.1 to P17.11: scripts made up: all replies, the device, the rows, behind each command as in the plain store; and no miss ever (P0.3).
func TestMadeUpScripts(t *testing.T) {
	var all met
	inBatches(t, 2500, func(m *maker) string {
		setup := m.setup()
		s, code := store.New(setup)
		p, right := newPlain(setup)
		if code != right {
			return fmt.Sprintf("P17.1: New(%+v): %d, want %d", setup, code, right)
		}
		if code != api.OK {
			return ""
		}
		teller, script := newTeller(m, setup), ""
		for range 120 {
			line := teller.next(s.Down())
			script += line + ";\n"
			rs, code := s.Play(commands(line)...)
			all.replies(rs)
			right := p.play(commands(line)...)
			if got, right := fmt.Sprintf("%+v %d", rs, code), fmt.Sprintf("%+v %d", right, api.OK); got != right {
				return fmt.Sprintf("%+v\n%s\n%s\nwant\n%s", setup, script, got, right)
			}
			if got, right := fmt.Sprint(s.Down(), s.Rows()), fmt.Sprint(!p.isUp, p.rows()); got != right {
				return fmt.Sprintf("%+v\n%s\ndown, rows: %s\nwant\n%s", setup, script, got, right)
			}
			if got, right := dump(s.Device()), dump(p.device); got != right {
				return fmt.Sprintf("%+v\n%s\ndevice:\n%s\nwant\n%s", setup, script, got, right)
			}
			if e := s.Engine(); (e == nil) != s.Down() || e.Base().Misses() != 0 {
				return "P0.3, P17.11: misses, or an engine of a store that is down"
			}
		}
		if wholeDump(s.Device()) != wholeDump(p.device) {
			return "P17.11: the device's directories, or its power"
		}
		return ""
	})
	all.atLeast(t, 20, "@ OK", "@ E170", "@ E71", "@ E91", "@ E90", "@ E102", "@ E105", "@ E160", "PLAY OK", "PLAY E170", "PLAY E115", "PLAY E118", "DRAIN OK", "DRAIN E170", "DRAIN E115", "DRAIN E118", "TICK OK", "TICK E2", "TICK E32", "TICK E170", "FLUSH OK", "FLUSH E115", "FLUSH E170", "FLUSH E118", "SYNC OK", "SYNC E115", "SYNC E118", "SYNC E170", "CHECKPOINT OK", "CHECKPOINT E115", "CHECKPOINT E117", "CHECKPOINT E118", "CHECKPOINT E170", "MERGE OK", "MERGE E127", "MERGE E170", "CRASH OK", "RESTART OK", "RESTART E117", "RESTART E115", "CHECK OK", "CHECK E170", "CUT OK", "CUT E170")
}
