package store_test

import (
	"fmt"
	"maps"
	"slices"
	"sort"
	"testing"

	"strata/adya"
	"strata/api"
	"strata/store"
)

// clients_test.go: what transactions are answered, held against a plain map (P0.4), whatever the schedule. Each session is a client that gives its next statement when its last one is answered.

// op is a statement over t, told by numbers.
type op struct{ kind, k, d int }

func (o op) text() string {
	switch o.kind {
	case 0:
		return fmt.Sprintf("SELECT v FROM t WHERE k = %d", o.k)
	case 1:
		return fmt.Sprintf("SELECT COUNT(*), SUM(v) FROM t WHERE k >= %d", o.k)
	case 2:
		return fmt.Sprintf("UPDATE t SET v = v + %d WHERE k = %d", o.d, o.k)
	case 3:
		return fmt.Sprintf("UPDATE t SET v = v * 2 WHERE v > %d", o.d)
	case 4:
		return fmt.Sprintf("INSERT INTO t VALUES (%d, %d)", o.k, o.d)
	case 5:
		return fmt.Sprintf("DELETE FROM t WHERE k = %d", o.k)
	case 6: // a transfer to the next one
		return fmt.Sprintf("UPDATE t SET v = v + CASE WHEN k = %d THEN %d ELSE 0 - %d END WHERE k = %d OR k = %d", o.k, o.d, o.d, o.k, o.k+1)
	}
	return "SELECT SUM(v) FROM t"
}

// on plays it on a map, and tells count and numbers that are answered; what it writes is noted.
func (o op) on(rows map[int]int, writes map[int]bool) string {
	set := func(k, v int) { rows[k], writes[k] = v, true }
	v, there := rows[o.k]
	count, sum := 0, 0
	switch o.kind {
	case 0:
		if there {
			return fmt.Sprint("1 ", v)
		}
		return "0"
	case 1:
		for k, v := range rows {
			if k >= o.k {
				count++
				sum += v
			}
		}
		if count == 0 {
			return "1 0 NULL"
		}
		return fmt.Sprint("1 ", count, " ", sum)
	case 2:
		if there {
			count++
			set(o.k, v+o.d)
		}
	case 3:
		for k, v := range rows {
			if v > o.d {
				count++
				set(k, v*2)
			}
		}
	case 4:
		if there {
			return "duplicate"
		}
		count++
		set(o.k, o.d)
	case 5:
		if there {
			count++
			delete(rows, o.k)
			writes[o.k] = true
		}
	case 6:
		if there {
			count++
			set(o.k, v+o.d)
		}
		if v, there := rows[o.k+1]; there {
			count++
			set(o.k+1, v-o.d)
		}
	default:
		for _, v := range rows {
			sum += v
		}
		return fmt.Sprint("1 ", sum)
	}
	return fmt.Sprint(count)
}

// answered is what a result tells of it.
func answered(r api.Result) string {
	text := fmt.Sprint(r.Count)
	for _, row := range r.Rows {
		for _, v := range row {
			if v.Kind == api.KNull {
				text += " NULL"
			} else {
				text += fmt.Sprint(" ", v.Int)
			}
		}
	}
	return text
}

// deal is a transaction of a client.
type deal struct {
	level      int // 0: a statement that stands alone
	begin, end uint64
	ops        []op
	answers    []string
}

// client of a session.
type client struct {
	waits   int // the command that it waits for; -1: none
	asked   op
	commits bool
	open    *deal
}

// house is a store with clients.
type house struct {
	*maker
	store   *store.Store
	clients []*client
	levels  []int
	kinds   []int
	keys    int
	done    []*deal // committed
	number  int
	fault   string
	met     *met
}

func levelText(level int) string {
	return []string{"", "READ COMMITTED", "SNAPSHOT", "REPEATABLE READ", "SERIALIZABLE"}[level]
}

// play plays a line, and hands the replies to the clients.
func (h *house) play(line string) []api.Reply {
	rs, _ := h.store.Play(commands(line)...)
	h.number += len(commands(line))
	for _, r := range rs {
		h.met.add(head(r))
		if r.Kind == api.CmStmt {
			h.take(h.clients[r.Who-1], r)
		}
		if r.Kind == api.CmRestart { // no session has a transaction any more
			for _, c := range h.clients {
				c.open = nil
			}
		}
	}
	return rs
}

// take is what a client does with a reply.
func (h *house) take(c *client, r api.Reply) {
	if c.waits != r.Command {
		h.fault = fmt.Sprintf("P17.4: a reply that nobody waits for: %+v", r)
	}
	c.waits = -1
	if c.open == nil {
		return
	}
	switch {
	case r.Code != api.OK:
		if c.open.begin != 0 && r.Code != api.ErrDown && r.Result.End != api.EndAbort {
			h.fault = fmt.Sprintf("P16.10: an error and no end: %+v", r)
		}
		c.open = nil
	case c.open.level > 0 && c.open.begin == 0:
		c.open.begin = r.Result.Stamp
	case c.commits:
		c.open.end = r.Result.Stamp
		h.done = append(h.done, c.open)
		c.open = nil
	default:
		c.open.ops = append(c.open.ops, c.asked)
		c.open.answers = append(c.open.answers, answered(r.Result))
		if c.open.level == 0 {
			c.open.end = r.Result.Stamp
			h.done = append(h.done, c.open)
			c.open = nil
		}
	}
}

// act lets a client that waits for nothing go on.
func (h *house) act(session int) {
	c := h.clients[session]
	if c.waits >= 0 {
		return
	}
	text := ""
	c.commits = false
	c.asked = op{pick(h.maker, h.kinds...), h.Intn(h.keys), 1 + h.Intn(3)}
	switch {
	case c.open == nil:
		c.open = &deal{level: pick(h.maker, h.levels...)}
		if text = "BEGIN " + levelText(c.open.level); c.open.level == 0 {
			text = c.asked.text()
		}
	case len(c.open.ops) > h.Intn(5):
		c.commits, text = true, "COMMIT"
	default:
		text = c.asked.text()
	}
	c.waits = h.number
	h.play(fmt.Sprintf("@%d %s", session+1, text))
}

func newHouse(t *testing.T, m *maker, setup api.Setup, all *met) *house {
	h := &house{maker: m, store: made(t, setup), keys: 4, met: all}
	for range setup.Engine.Sessions {
		h.clients = append(h.clients, &client{waits: -1})
	}
	h.play("@1 CREATE TABLE t (k INT, v INT, PRIMARY KEY (k)); DRAIN; @1 INSERT INTO t VALUES (0, 100), (1, 100), (2, 100), (3, 100); DRAIN")
	h.fault = ""
	return h
}

// clientSetup has room enough.
func clientSetup(m *maker) api.Setup {
	s := roomySetup()
	s.Engine.Sessions, s.Engine.Coop, s.Engine.Buckets = 2+m.Intn(3), m.Intn(3), 1+m.Intn(4)
	s.Engine.Slots = pick(m, 40, 1000)
	return s
}

// stir lets clients act and workers make steps.
func (h *house) stir(rounds int) {
	for range rounds {
		for range 1 + h.Intn(3) {
			h.act(h.Intn(len(h.clients)))
		}
		h.play(fmt.Sprintf("PLAY x'%x'", h.steps()))
	}
}

// steps is a schedule of a few steps here and there.
func (h *house) steps() string {
	text := ""
	for range 1 + h.Intn(6) {
		who := h.Intn(len(h.clients))
		switch h.Intn(8) {
		case 0:
			text += string([]byte{byte(0x60 + h.Intn(12))})
		case 1:
			text += string([]byte{0x40, byte(len(h.clients)), byte(0x20 + len(h.clients)), byte(h.Intn(60))})
		case 2:
			text += string([]byte{byte(0x80 + who)})
		default:
			text += string([]byte{byte(0x20 + who), byte(h.Intn(pick(h.maker, 6, 40)))})
		}
	}
	return text
}

// stateAt is the map behind all deals with an end up to a time.
func stateAt(done []*deal, wrote map[*deal]map[int]int, gone map[*deal]map[int]bool, at uint64) map[int]int {
	rows := map[int]int{0: 100, 1: 100, 2: 100, 3: 100}
	for _, d := range done {
		if d.end > at {
			break
		}
		for k := range gone[d] {
			delete(rows, k)
		}
		maps.Copy(rows, wrote[d])
	}
	return rows
}

// judge plays all deals on plain maps: a serializable one at its end, others at their begin.
func judge(done []*deal) string {
	sort.Slice(done, func(i, j int) bool { return done[i].end < done[j].end })
	wrote, gone := map[*deal]map[int]int{}, map[*deal]map[int]bool{}
	last := map[int]uint64{} // of each key the end of the last one that wrote it
	for i, d := range done {
		at := d.begin
		if d.level == api.Serializable {
			at = d.end - 1
		}
		rows := stateAt(done[:i], wrote, gone, at)
		keys := map[int]bool{}
		for j, o := range d.ops {
			if right := o.on(rows, keys); d.answers[j] != right {
				return fmt.Sprintf("P0.4: a transaction of level %d from %d to %d: %s: %s, want %s", d.level, d.begin, d.end, o.text(), d.answers[j], right)
			}
		}
		wrote[d], gone[d] = map[int]int{}, map[int]bool{}
		for k := range keys {
			if last[k] > d.begin {
				return fmt.Sprintf("P0.4: key %d: one ends at %d, within another that ends at %d", k, last[k], d.end)
			}
			last[k] = d.end
			if v, there := rows[k]; there {
				wrote[d][k] = v
			} else {
				gone[d][k] = true
			}
		}
	}
	return ""
}

// P0.4: of each transaction what it was answered, played on a plain map at its end, or at its begin; and what the history tells (P14.15). P0.3, P0.7 beside it.
func TestClients(t *testing.T) {
	var all met
	inBatches(t, 3000, func(m *maker) string {
		h := newHouse(t, m, clientSetup(m), &all)
		h.kinds = []int{0, 1, 2, 2, 3, 4, 5}
		h.levels = pick(m, []int{api.Snapshot}, []int{api.Serializable}, []int{api.Snapshot, api.RepeatableRead, api.Serializable})
		h.stir(60)
		history := h.store.Engine().History()
		rs := h.play("DRAIN")
		if h.fault != "" || rs[len(rs)-1].Code != api.OK {
			return fmt.Sprintf("P0.7: %s %+v", h.fault, rs[len(rs)-1])
		}
		if fault := judge(h.done); fault != "" {
			return fault
		}
		if h.store.Engine().Base().Misses() != 0 {
			return "P0.3: misses"
		}
		if len(h.done) > 3 {
			all.add("many")
		}
		return judgeHistory(history, slices.Equal(h.levels, []int{api.Serializable}))
	})
	all.atLeast(t, 50, "@ OK", "@ E71", "@ E90", "@ E91", "@ E105", "many", "TICK OK")
	all.atLeast(t, 1, "@ E106")
}

// judgeHistory is P14.15.
func judgeHistory(h api.History, serializable bool) string {
	if code, txn, op := adya.Check(h); code != api.OK {
		return fmt.Sprintf("P10.14: the history is none: %d %d %d", code, txn, op)
	}
	if _, code := adya.Embed(h); code != api.OK {
		return fmt.Sprintf("P0.4: Embed: %d", code)
	}
	if ok, code := adya.Meets(h, api.PLSI); !ok || code != api.OK {
		return fmt.Sprintf("P0.4: PLSI: %v %d", ok, code)
	}
	if !serializable {
		return ""
	}
	later, _ := adya.AtEnd(h)
	for i, x := range later.Txns {
		if x.Fate == api.FCommitted && x.Iso != api.Serializable && i > 1 { // the table and its rows come first
			return fmt.Sprintf("transaction %d has the level %d", i, x.Iso)
		}
	}
	if ok, code := adya.Meets(later, api.PL3); !ok || code != api.OK {
		return fmt.Sprintf("P0.4: PL3: %v %d", ok, code)
	}
	return ""
}

// total is the sum that transfers leave as it is.
const total = "1 400"

// P0.4, P0.5: transfers leave the sum as it is: whoever reads it, and is committed, reads it so; so it is behind every crash and restart.
func TestTransfers(t *testing.T) {
	var all met
	inBatches(t, 1200, func(m *maker) string {
		setup := clientSetup(m)
		setup.Batch, setup.Segment = 1+m.Intn(4), pick(m, 256, 4096)
		h := newHouse(t, m, setup, &all)
		h.play("SYNC")
		h.keys = 3
		h.kinds = []int{6, 6, 7}
		h.levels = []int{0, 0, api.Snapshot, api.RepeatableRead, api.Serializable}
		for range 15 {
			h.stir(6)
			if m.one(3) {
				h.play(pick(m, "SYNC", "FLUSH", "CHECKPOINT", "MERGE 0", "TICK 1", "CHECK"))
			}
			if m.one(6) {
				h.play(fmt.Sprintf("CUT %d", m.Intn(25)))
				h.play("CHECKPOINT")
			}
			if m.one(10) {
				h.play("RESTART") // where the power is cut it may be refused
			}
			if h.store.Down() || m.one(5) {
				h.play(m.crash())
				h.play("RESTART")
			}
			if h.store.Down() {
				return "P17.9: a restart behind a crash is refused"
			}
		}
		if h.play("DRAIN"); h.fault != "" {
			return h.fault
		}
		for _, d := range h.done {
			for i, o := range d.ops {
				if o.kind == 7 && d.answers[i] != total {
					return fmt.Sprintf("P0.4: the sum is %s, at level %d, from %d to %d", d.answers[i], d.level, d.begin, d.end)
				}
			}
			all.add("a sum")
		}
		for range 2 {
			for _, session := range []int{0, 1} {
				if h.store.Engine().Open(session) {
					h.store.Play(commands(fmt.Sprintf("@%d ROLLBACK; DRAIN", session+1))...)
				}
			}
			rs, _ := h.store.Play(commands("@1 SELECT SUM(v) FROM t; DRAIN; SYNC; CRASH; RESTART")...)
			if r := rs[0]; r.Kind != api.CmStmt || answered(r.Result) != total {
				return fmt.Sprintf("P0.5: the sum is %+v", r)
			}
		}
		return ""
	})
	all.atLeast(t, 1000, "@ OK", "@ E71", "RESTART OK", "CRASH OK", "a sum")
	all.atLeast(t, 100, "@ E90", "@ E170", "CHECKPOINT OK", "CHECKPOINT E117", "CHECKPOINT E118")
}

// P0.4: where each statement is run to its end ahead of the next, transfers leave the sum as it is under READ COMMITTED too.
func TestTransfersReadCommitted(t *testing.T) {
	var all met
	inBatches(t, 400, func(m *maker) string {
		h := newHouse(t, m, clientSetup(m), &all)
		h.keys, h.kinds, h.levels = 3, []int{6, 6, 7}, []int{0, api.ReadCommitted, api.ReadCommitted, api.Snapshot}
		for range 80 {
			h.act(h.Intn(len(h.clients)))
			h.play("DRAIN")
			if m.one(30) {
				h.play("SYNC; CRASH; RESTART")
			}
		}
		for _, d := range h.done {
			for i, o := range d.ops {
				if o.kind == 7 && d.answers[i] != total {
					return fmt.Sprintf("P0.4: the sum is %s", d.answers[i])
				}
			}
		}
		return h.fault
	})
	all.atLeast(t, 1000, "@ OK", "@ E71")
}
