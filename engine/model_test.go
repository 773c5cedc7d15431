package engine_test

import (
	"fmt"
	"iter"
	"reflect"
	"slices"
	"sort"
	"testing"

	"strata/api"
	"strata/sweep"
	"strata/valid"
	"strata/version"
)

// model is an engine as the chapter's lines have it, written down one behind the other, on a base of its own.
type model struct {
	base    *version.Base
	sweeper *sweep.Sweeper
	config  api.Config
	log     []api.Commit
	events  int
	txns    []*api.HTxn
	whose   map[int]api.Ver // by slot: whose write a version is
	clients []*client
	met     map[string]int
}

// client is a session of it.
type client struct {
	*model
	number int
	hand   int
	tx     *dealing // nil: none
	call   api.Call
	has    bool // it has a call
	came   int
	over   bool
	answer api.Answer
	pull   func() (int, bool)
	stop   func()
	yield  func(int) bool
}

// dealing is a transaction of it.
type dealing struct {
	id     int
	iso    int
	begin  uint64
	end    uint64
	made   []int
	taken  []int
	ever   bool // it has made or taken one
	read   []int
	looked []valid.Range
	number int
	tale   *api.HTxn
	writes map[string]int
}

// halt is how a script that nobody pulls any more comes to its end.
type halt struct{}

func newModel(c api.Config, rows ...api.Row) *model {
	m := &model{config: c, whose: map[int]api.Ver{}, met: map[string]int{}}
	m.base, _ = version.New(c)
	m.sweeper, _ = sweep.New(m.base)
	if len(rows) > 0 {
		m.txns = append(m.txns, &api.HTxn{Iso: 4, Fate: 1, Begin: c.Clock, End: c.Clock})
	}
	for _, r := range rows {
		load := m.base.Load(r.Stamp, r.Key, r.Data)
		for !load.Step() {
		}
		m.whose[load.Slot()] = api.Ver{Key: r.Key, From: 0, Nth: 1}
		m.txns[0].Ops = append(m.txns[0].Ops, api.HOp{Kind: 2, Ver: api.Ver{Key: r.Key}, Value: r.Data})
	}
	for n := range c.Sessions {
		m.clients = append(m.clients, &client{model: m, number: n})
	}
	return m
}

// start gives a client a call that may be.
func (c *client) start(call api.Call) {
	c.events++
	c.call, c.has, c.came, c.over, c.answer = call, true, c.events, false, api.Answer{}
	c.pull, c.stop = iter.Pull(func(yield func(int) bool) {
		defer func() {
			if x := recover(); x != nil && x != (halt{}) {
				panic(x)
			}
		}()
		c.yield = yield
		c.answer = c.lines()
	})
	c.pull() // up to just ahead of the first access
}

// step goes on over one access, up to just ahead of the next.
func (c *client) step() bool {
	if c.has && !c.over {
		_, more := c.pull()
		c.over = !more
	}
	return !c.has || c.over
}

// turn stands ahead of each access: there the script rests till the next step.
func (c *client) turn() {
	if !c.yield(0) {
		panic(halt{})
	}
}

// meet notes that a line was come to.
func (c *client) meet(line string) { c.met[line]++ }

// machine runs a machine that has an access to make.
func (c *client) machine(m machine) api.Errno {
	for c.turn(); !m.Step(); c.turn() {
	}
	return m.Code()
}

func (c *client) lines() api.Answer {
	switch c.call.Kind {
	case api.CallBegin:
		return c.begin()
	case api.CallCommit:
		return c.commit()
	case api.CallAbort:
		return c.abort(api.OK)
	case api.CallCollect:
		return c.collect()
	}
	c.turn()
	_, aborted, _ := c.base.Tx.Waits(c.tx.id)
	if aborted > 0 {
		c.meet(fmt.Sprint("a cascade at kind ", c.call.Kind))
		return c.abort(api.ErrCascade)
	}
	at := c.tx.begin
	if c.tx.iso == api.ReadCommitted {
		c.turn()
		at, _ = c.base.Tx.Clock()
	}
	a, code := c.work(at)
	if code != api.OK {
		c.meet(fmt.Sprint("kind ", c.call.Kind, " ends with ", int(code)))
		return c.abort(code)
	}
	c.meet(fmt.Sprint("kind ", c.call.Kind, " answers ", int(a.Code)))
	c.events++
	return a
}

// begin is P10.7.
func (c *client) begin() api.Answer {
	tx := c.base.Tx
	refused := func(e api.Errno) api.Answer {
		c.meet(fmt.Sprint("a begin is refused: ", int(e)))
		c.events++
		return api.Answer{Code: e}
	}
	c.turn()
	id, e := tx.Open(api.TxInfo{Session: c.number, Iso: c.call.Iso})
	if e == api.ErrTxFull {
		floor := tx.Floor()
		c.machine(floor)
		for again := true; again; {
			c.turn()
			if again, _ = tx.Free(floor.Floor()); again {
				c.meet("a begin frees a record")
			}
		}
		c.turn()
		id, e = tx.Open(api.TxInfo{Session: c.number, Iso: c.call.Iso})
		if e == api.OK {
			c.meet("a begin has made room")
		}
	}
	if e != api.OK {
		return refused(e)
	}
	start := tx.Start(id)
	if e := c.machine(start); e != api.OK {
		c.machine(tx.Quit(id))
		return refused(e)
	}
	c.events++
	tale := &api.HTxn{Iso: c.call.Iso, Begin: start.Begin(), BeginIn: c.came, BeginOut: c.events}
	c.txns = append(c.txns, tale)
	c.tx = &dealing{id: id, iso: c.call.Iso, begin: start.Begin(), number: len(c.txns) - 1, tale: tale, writes: map[string]int{}}
	return api.Answer{Stamp: start.Begin()}
}

// noteVersion notes a version; false: it would be one too many.
func (c *client) noteVersion(slot int) bool {
	x := c.tx
	if x.iso < 3 || slices.Contains(x.made, slot) || slices.Contains(x.read, slot) {
		return true
	}
	if len(x.read) == 64 {
		return false
	}
	x.read = append(x.read, slot)
	return true
}

// noteRange notes a range, likewise.
func (c *client) noteRange(low, high string) bool {
	x, r := c.tx, valid.Range{Low: low, High: high}
	if x.iso < 3 || slices.Contains(x.looked, r) {
		return true
	}
	if len(x.looked) == 64 {
		return false
	}
	x.looked = append(x.looked, r)
	return true
}

func (c *client) tell(op api.HOp) { c.tx.tale.Ops = append(c.tx.tale.Ops, op) }

// work is what P10.8 says of each call; an error ends the transaction.
func (c *client) work(at uint64) (api.Answer, api.Errno) {
	switch c.call.Kind {
	case api.CallInsert:
		return c.insert(at)
	case api.CallScan:
		return c.scan(at)
	}
	find := c.base.Find(c.tx.id, c.call.Key, at)
	if e := c.machine(find); e != api.OK {
		return api.Answer{}, e
	}
	if find.Slot() == 0 {
		if !c.noteRange(c.call.Key, c.call.Key+"\x00") {
			return api.Answer{}, api.ErrLong
		}
		c.tell(api.HOp{Kind: 3, Ver: api.Ver{Key: c.call.Key}, Hi: c.call.Key + "\x00", At: at})
		return api.Answer{Code: api.ErrNotFound}, api.OK
	}
	entry, _ := c.base.Cells.Payload(find.Slot())
	if !c.noteVersion(find.Slot()) {
		return api.Answer{}, api.ErrLong
	}
	c.tell(api.HOp{Kind: 1, Ver: c.whose[find.Slot()], Value: entry.Data, At: at})
	switch c.call.Kind {
	case api.CallGet:
		return api.Answer{Rows: []api.Pair{{Key: entry.Name, Data: entry.Data}}}, api.OK
	case api.CallUpdate:
		return api.Answer{}, c.update(find.Slot())
	}
	return api.Answer{}, c.remove(find.Slot())
}

func (c *client) update(slot int) api.Errno {
	if len(c.tx.taken) == 64 || len(c.tx.made) == 64 {
		return api.ErrLong
	}
	if e := c.lock(slot); e != api.OK {
		return e
	}
	fresh, e := c.make()
	if e != api.OK {
		return e
	}
	c.wrote(fresh, false)
	return api.OK
}

func (c *client) remove(slot int) api.Errno {
	if len(c.tx.taken) == 64 {
		return api.ErrLong
	}
	if e := c.lock(slot); e != api.OK {
		return e
	}
	c.wrote(0, true)
	return api.OK
}

func (c *client) lock(slot int) api.Errno {
	if e := c.machine(c.base.Lock(c.tx.id, slot)); e != api.OK {
		return e
	}
	if slices.Contains(c.tx.made, slot) {
		c.meet(fmt.Sprint("kind ", c.call.Kind, " of its own"))
	}
	c.tx.taken, c.tx.ever = append(c.tx.taken, slot), true
	return api.OK
}

func (c *client) make() (int, api.Errno) {
	m := c.base.Make(c.tx.id, c.call.Key, c.call.Data)
	if e := c.machine(m); e != api.OK {
		return 0, e
	}
	c.tx.made, c.tx.ever = append(c.tx.made, m.Slot()), true
	return m.Slot(), api.OK
}

// wrote tells a write: of a version, or a delete.
func (c *client) wrote(slot int, dead bool) {
	key := c.call.Key
	c.tx.writes[key]++
	if dead {
		c.tell(api.HOp{Kind: 2, Ver: api.Ver{Key: key}, Dead: true})
		return
	}
	c.whose[slot] = api.Ver{Key: key, From: c.tx.number, Nth: c.tx.writes[key]}
	c.tell(api.HOp{Kind: 2, Ver: api.Ver{Key: key}, Value: c.call.Data})
}

func (c *client) insert(at uint64) (api.Answer, api.Errno) {
	if len(c.tx.made) == 64 {
		return api.Answer{}, api.ErrLong
	}
	slot, e := c.make()
	if e != api.OK {
		return api.Answer{}, e
	}
	free := c.base.Free(c.tx.id, slot, at)
	switch e := c.machine(free); e {
	case api.OK:
		c.wrote(slot, false)
		return api.Answer{}, api.OK
	case api.ErrDuplicate:
		c.turn()
		c.base.Cells.Store(slot, api.CellBegin, api.Infinity)
		c.tx.made = c.tx.made[:len(c.tx.made)-1]
		if !c.noteVersion(free.Slot()) {
			return api.Answer{}, api.ErrLong
		}
		entry, _ := c.base.Cells.Payload(free.Slot())
		c.tell(api.HOp{Kind: 1, Ver: c.whose[free.Slot()], Value: entry.Data, At: at})
		return api.Answer{Code: api.ErrDuplicate}, api.OK
	default:
		return api.Answer{}, e
	}
}

func (c *client) scan(at uint64) (api.Answer, api.Errno) {
	var a api.Answer
	var seen []api.Ver
	walk := c.base.Order.Walk(c.call.Key)
	for !walk.Ended() {
		c.turn()
		if !walk.Step() {
			continue
		}
		if walk.Slot() == 0 {
			break
		}
		entry, _ := c.base.Cells.Payload(walk.Slot())
		if c.call.High != "" && entry.Name >= c.call.High {
			break
		}
		see := c.base.See(c.tx.id, walk.Slot(), at)
		if e := c.machine(see); e != api.OK {
			return api.Answer{}, e
		}
		if !see.Seen() {
			continue
		}
		a.Rows = append(a.Rows, api.Pair{Key: entry.Name, Data: entry.Data})
		if !c.noteVersion(walk.Slot()) {
			return api.Answer{}, api.ErrLong
		}
		seen = append(seen, c.whose[walk.Slot()])
	}
	if !c.noteRange(c.call.Key, c.call.High) {
		return api.Answer{}, api.ErrLong
	}
	c.tell(api.HOp{Kind: 3, Ver: api.Ver{Key: c.call.Key}, Hi: c.call.High, Seen: seen, At: at})
	return a, api.OK
}

// commit is P10.9.
func (c *client) commit() api.Answer {
	x, tx := c.tx, c.base.Tx
	c.turn()
	if _, aborted, _ := tx.Waits(x.id); aborted > 0 {
		c.meet("a cascade at a commit's beginning")
		return c.abort(api.ErrCascade)
	}
	c.turn()
	tx.Move(x.id, api.TxPreparing)
	draw := tx.Draw(x.id)
	if e := c.machine(draw); e != api.OK {
		c.meet(fmt.Sprint("no end is drawn: ", int(e)))
		return c.abort(e)
	}
	x.end = draw.End()
	sees := valid.NewSees()
	sees.Read(x.read...)
	for _, r := range x.looked {
		sees.Look(r.Low, r.High)
	}
	if x.iso >= 3 && len(x.read) > 0 || x.iso == 4 && len(x.looked) > 0 {
		if e := c.machine(valid.NewCheck(c.base, x.id, x.iso, sees, x.end)); e != api.OK {
			c.meet(fmt.Sprint("level ", x.iso, ": the check ends with ", int(e)))
			return c.abort(e)
		}
	}
	for {
		c.turn()
		open, aborted, _ := tx.Waits(x.id)
		if aborted > 0 {
			c.meet("a cascade at a commit's end")
			return c.abort(api.ErrCascade)
		}
		if open == 0 {
			break
		}
		c.meet("a commit waits")
	}
	if writes := c.net(); len(writes) > 0 {
		c.turn()
		c.log = append(c.log, api.Commit{Stamp: x.end, Writes: writes})
	} else if x.ever {
		c.meet("no net writes")
	}
	c.turn()
	tx.Move(x.id, api.TxCommitted)
	x.tale.Fate, x.tale.End, x.tale.EndIn = api.FCommitted, x.end, c.came
	c.machine(tx.Close(x.id))
	if len(x.made)+len(x.taken) > 0 {
		c.machine(c.base.Commit(x.id, x.made, x.taken, x.end))
	}
	if x.ever {
		c.machine(tx.Leave(x.id))
	} else {
		c.meet("a commit ends by Quit")
		c.machine(tx.Quit(x.id))
	}
	c.meet(fmt.Sprint("level ", x.iso, " commits"))
	return c.gone(api.Answer{Stamp: x.end})
}

// abort is P10.10: the end by abort.
func (c *client) abort(code api.Errno) api.Answer {
	x, tx := c.tx, c.base.Tx
	c.turn()
	tx.Move(x.id, api.TxAborted)
	x.tale.Fate, x.tale.EndIn = api.FAborted, c.came
	c.machine(tx.Close(x.id))
	if len(x.made)+len(x.taken) > 0 {
		c.machine(c.base.Undo(x.id, x.made, x.taken))
	}
	c.machine(tx.Leave(x.id))
	return c.gone(api.Answer{Code: code})
}

// gone is the sweep, P10.13, and what is done with the call.
func (c *client) gone(a api.Answer) api.Answer {
	for range c.config.Coop {
		if e := c.machine(c.sweeper.Pass(c.hand)); e != api.OK {
			c.meet(fmt.Sprint("a sweep is refused: ", int(e)))
		}
		if c.hand++; c.hand == c.config.Buckets {
			c.meet("the hand goes round")
			c.hand = 0
		}
	}
	c.events++
	c.tx.tale.EndOut = c.events
	c.tx = nil
	return a
}

// net is P10.11.
func (c *client) net() []api.Write {
	type versions struct{ left, other int } // left: made and not taken; other: taken and not made
	all, names := map[string]versions{}, []string{}
	note := func(slot int, in, out []int, set func(v *versions)) {
		entry, _ := c.base.Cells.Payload(slot)
		v, ok := all[entry.Name]
		if !ok {
			names = append(names, entry.Name)
		}
		if slices.Contains(in, slot) && !slices.Contains(out, slot) {
			set(&v)
		}
		all[entry.Name] = v
	}
	for _, slot := range c.tx.made {
		note(slot, c.tx.made, c.tx.taken, func(v *versions) { v.left = slot })
	}
	for _, slot := range c.tx.taken {
		note(slot, c.tx.taken, c.tx.made, func(v *versions) { v.other = slot })
	}
	sort.Strings(names)
	var writes []api.Write
	for _, name := range names {
		switch v := all[name]; {
		case v.left != 0:
			entry, _ := c.base.Cells.Payload(v.left)
			writes = append(writes, api.Write{Kind: 1, Key: name, Data: entry.Data})
		case v.other != 0:
			writes = append(writes, api.Write{Kind: 2, Key: name})
		}
	}
	return writes
}

// collect is P10.12.
func (c *client) collect() api.Answer {
	a := api.Answer{}
	for range c.call.Count {
		pass := c.sweeper.Pass(c.hand)
		e := c.machine(pass)
		a.Count += pass.Unlinked()
		if e != api.OK {
			c.meet(fmt.Sprint("a collect is refused: ", int(e)))
			a.Code = e
			break
		}
		if c.hand++; c.hand == c.config.Buckets {
			c.hand = 0
		}
	}
	if a.Count > 0 {
		c.meet("a collect unlinks")
	}
	c.events++
	return a
}

// rows is P10.6, by what the cells hold.
func (m *model) rows() []api.Row {
	var rows []api.Row
	for _, slot := range m.base.Cells.Live() {
		words, _ := m.base.Cells.Peek(slot)
		stamp, begun := words[api.CellBegin], words[api.CellBegin] <= api.MaxTime
		if id := int(words[api.CellBegin] - 1<<63); words[api.CellBegin] > 1<<63 {
			state, end, _ := m.base.Tx.Look(id)
			stamp, begun = end, state == api.TxCommitted
		}
		ended := words[api.CellEnd] != api.Infinity
		if id := int(words[api.CellEnd] - 1<<63); words[api.CellEnd] > 1<<63 {
			state, _, _ := m.base.Tx.Look(id)
			ended = state == api.TxCommitted
		}
		if begun && !ended {
			entry, _ := m.base.Cells.Payload(slot)
			rows = append(rows, api.Row{Key: entry.Name, Data: entry.Data, Stamp: stamp})
		}
	}
	sort.Slice(rows, func(i, j int) bool { return rows[i].Key < rows[j].Key })
	return rows
}

func (m *model) count() count {
	b := m.base
	return count{b.Cells.Accesses(), b.Hash.Accesses(), b.Order.Accesses(), b.Tx.Accesses(), m.sweeper.Accesses(), len(m.log), b.Misses()}
}

// history is what the model has told, as an engine tells it.
func (m *model) history() []api.HTxn {
	var txns []api.HTxn
	for _, x := range m.txns {
		txns = append(txns, *x)
	}
	return txns
}

// same tells whether two lists are the same; none is the same as an empty one.
func same[T any](a, b []T) bool {
	return len(a) == len(b) && (len(a) == 0 || reflect.DeepEqual(a, b))
}

// unlike tells where an engine and the model part; "": nowhere.
func (m *model) unlike(w *world) string {
	if a, b := w.count(), m.count(); a != b {
		return fmt.Sprintf("the accesses are %+v, want %+v", a, b)
	}
	if w.Accesses() != w.Base().Accesses()+m.sweeper.Accesses()+len(m.log) {
		return fmt.Sprintf("Accesses is %d", w.Accesses())
	}
	if a, b := w.Rows(), m.rows(); !same(a, b) {
		return fmt.Sprintf("the rows are %v, want %v", a, b)
	}
	if a := w.Commits(0); !same(a, m.log) {
		return fmt.Sprintf("the log is %v, want %v", a, m.log)
	}
	if a, b := w.History().Txns, m.history(); !same(a, b) {
		return fmt.Sprintf("the history is\n%+v, want\n%+v", a, b)
	}
	free, limbo := w.Free()
	if right := m.config.Slots - len(m.base.Cells.Live()); free != right || limbo != m.sweeper.Limbo() {
		return fmt.Sprintf("Free is %d, %d, want %d, %d", free, limbo, right, m.sweeper.Limbo())
	}
	if floor := m.floor(); w.Floor() != floor {
		return fmt.Sprintf("Floor is %d, want %d", w.Floor(), floor)
	}
	for s, c := range m.clients {
		if w.Busy(s) != (c.has && !c.over) || w.Open(s) != (c.tx != nil) {
			return fmt.Sprintf("session %d: Busy is %v, Open is %v", s, w.Busy(s), w.Open(s))
		}
	}
	return m.unlikeWords(w)
}

// unlikeWords tells where the words of versions and the records of transactions part.
func (m *model) unlikeWords(w *world) string {
	for slot := 1; slot <= m.config.Slots; slot++ {
		a, e := w.Base().Cells.Peek(slot)
		b, f := m.base.Cells.Peek(slot)
		if e != f || !slices.Equal(a, b) {
			return fmt.Sprintf("slot %d holds %x, %d, want %x, %d", slot, a, e, b, f)
		}
	}
	for id := 1; id <= m.config.TxSlots; id++ {
		a, x, e := w.Base().Tx.Look(id)
		b, y, f := m.base.Tx.Look(id)
		if a != b || x != y || e != f {
			return fmt.Sprintf("record %d is %d, %d, %d, want %d, %d, %d", id, a, x, e, b, y, f)
		}
	}
	return ""
}

// floor is what the table's announced begins say.
func (m *model) floor() uint64 {
	clock, floor := m.base.Tx.Horizon()
	return min(clock+1, floor)
}

// pairOf is an engine and its model, in step with one another.
type pairOf struct {
	*world
	m     *model
	loose bool // they are held against one another at the ends of calls alone
}

func newPair(t *testing.T, c api.Config, rows ...api.Row) *pairOf {
	t.Helper()
	p := &pairOf{world: open(t, c, rows...), m: newModel(c, rows...)}
	p.hold("at the beginning")
	return p
}

func (p *pairOf) hold(when string) {
	p.t.Helper()
	if fault := p.m.unlike(p.world); fault != "" {
		p.t.Fatalf("P10: %s: %s", when, fault)
	}
}

// begin gives a session a call, of both.
func (p *pairOf) begin(s int, c api.Call) {
	p.t.Helper()
	p.start(s, c)
	p.m.clients[s].start(c)
	p.hold(fmt.Sprintf("session %d has %+v", s, c))
}

// goOn makes a step of a session, of both; at the end the answers are taken and held against one another.
func (p *pairOf) goOn(s int) bool {
	p.t.Helper()
	c := p.m.clients[s]
	done, e := p.Step(s)
	if right := c.step(); done != right || e != api.OK {
		p.t.Fatalf("P10: session %d, %+v: done is %v, want %v; %d", s, c.call, done, right, e)
	}
	if p.loose && !done {
		return false
	}
	if fault := p.m.unlike(p.world); fault != "" {
		p.t.Fatalf("P10: session %d, a step of %+v: %s", s, c.call, fault)
	}
	return done
}

func (p *pairOf) end(s int) api.Answer {
	p.t.Helper()
	if dump(p.Base()) != dump(p.m.base) {
		p.t.Fatalf("P10: the bases part at the end of session %d's call", s)
	}
	c, a := p.m.clients[s], p.take(s)
	if !same([]api.Answer{a}, []api.Answer{c.answer}) {
		p.t.Fatalf("P10: session %d: %+v answers %+v, want %+v", s, c.call, a, c.answer)
	}
	c.has = false
	return a
}

// play runs calls of one session, of both.
func (p *pairOf) play(s int, calls ...api.Call) []api.Answer {
	p.t.Helper()
	var all []api.Answer
	for _, c := range calls {
		p.begin(s, c)
		for !p.goOn(s) {
		}
		all = append(all, p.end(s))
	}
	return all
}

// leave lets all scripts end that are not at their end.
func (p *pairOf) leave() {
	for _, c := range p.m.clients {
		if c.stop != nil {
			c.stop()
		}
	}
}
