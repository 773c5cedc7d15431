package txtab_test

import (
	"fmt"
	"math/rand"
	"slices"
	"testing"

	"strata/api"
	"strata/txtab"
)

// memory is the chapter's table as plain data.
type memory struct {
	clock            uint64
	free             []int
	waiting          [][2]uint64
	places           []spot
	accesses, misses int
	met              map[string]int // the lines that the runs have come by, and how they went, so that a test can tell that it was worth something
}

// spot is a place: used tells whether its record is in use.
type spot struct {
	used bool
	txtab.Record
}

func newMemory(slots int, clock uint64) *memory {
	m := &memory{clock: clock, places: make([]spot, slots), met: map[string]int{}}
	for i := range slots {
		m.free = append(m.free, i+1)
	}
	return m
}

func (m *memory) isPlace(id int) bool { return id >= 1 && id <= len(m.places) }

// find is an access to a record; nil: none of that number is in use.
func (m *memory) find(id int) *spot {
	m.accesses++
	if !m.isPlace(id) {
		return nil
	}
	if !m.places[id-1].used {
		m.misses++
		return nil
	}
	return &m.places[id-1]
}

func (m *memory) Clock() (uint64, api.Errno) {
	m.accesses++
	return m.clock, api.OK
}

func (m *memory) Tick() (uint64, api.Errno) {
	m.accesses++
	if m.clock == 1<<62-1 {
		return 0, api.ErrClock
	}
	m.clock++
	return m.clock, api.OK
}

func (m *memory) Open(info api.TxInfo) (int, api.Errno) {
	m.accesses++
	if len(m.free) == 0 {
		return 0, api.ErrTxFull
	}
	id := m.free[0]
	m.free = m.free[1:]
	m.places[id-1] = spot{true, txtab.Record{Info: info, State: api.TxActive}}
	return id, api.OK
}

func (m *memory) State(id int) (int, api.Errno) {
	if s := m.find(id); s != nil {
		return s.State, api.OK
	}
	return 0, api.ErrTx
}

func (m *memory) Move(id, state int) api.Errno {
	s := m.find(id)
	if s == nil {
		return api.ErrTx
	}
	after := [][]int{{}, {2, 4, 5}, {3, 4}, {5}, {5}, {}}
	if !slices.Contains(after[s.State], state) {
		return api.ErrMove
	}
	s.State = state
	return api.OK
}

func (m *memory) Announced(id int) (uint64, api.Errno) {
	m.accesses++
	if !m.isPlace(id) {
		return 0, api.ErrTx
	}
	return m.places[id-1].Announced, api.OK
}

func (m *memory) Announce(id int, begin uint64) api.Errno {
	s := m.find(id)
	switch {
	case s == nil:
		return api.ErrTx
	case begin > 1<<62-1:
		return api.ErrArg
	}
	s.Announced = begin
	return api.OK
}

func (m *memory) End(id int) (uint64, api.Errno) {
	if s := m.find(id); s != nil {
		return s.End, api.OK
	}
	return 0, api.ErrTx
}

func (m *memory) Waits(id int) (int, int, api.Errno) {
	if s := m.find(id); s != nil {
		return int(s.Word % (1 << 32)), int(s.Word / (1 << 32)), api.OK
	}
	return 0, 0, api.ErrTx
}

func (m *memory) ending(id int) (*spot, api.Errno) {
	s := m.find(id)
	switch {
	case s == nil:
		return nil, api.ErrTx
	case s.State != api.TxTerminated || s.Retired:
		return nil, api.ErrState
	}
	return s, api.OK
}

func (m *memory) Retire(id int, stamp uint64) api.Errno {
	s, e := m.ending(id)
	if e == api.OK {
		s.Retired = true
		m.waiting = append(m.waiting, [2]uint64{uint64(id), stamp})
	}
	return e
}

func (m *memory) Free(floor uint64) (bool, api.Errno) {
	m.accesses++
	if len(m.waiting) == 0 || m.waiting[0][1] >= floor {
		return false, api.OK
	}
	id := int(m.waiting[0][0])
	m.waiting = m.waiting[1:]
	m.places[id-1] = spot{}
	m.free = append(m.free, id)
	return true, api.OK
}

func (m *memory) Drop(id int) api.Errno {
	_, e := m.ending(id)
	if e == api.OK {
		m.places[id-1] = spot{}
		m.free = append(m.free, id)
	}
	return e
}

// inside tells all of it as a table does.
func (m *memory) inside() txtab.Inside {
	all := txtab.Inside{Clock: m.clock, Free: m.free, Waiting: m.waiting}
	for _, s := range m.places {
		all.Records = append(all.Records, s.Record)
	}
	return all
}

// actor is a machine of the chapter: line is the one whose access is the next.
type actor struct {
	m      *memory
	kind   string
	id, on int
	line   string
	x      uint64 // what was read, ticked, found
	place  int
	delta  uint64 // of Close
	count  uint64
	over   bool
	code   api.Errno
	tells  uint64
}

func (a *actor) String() string { return fmt.Sprintf("%s(%d, %d) at %q", a.kind, a.id, a.on, a.line) }

func (a *actor) done(e api.Errno, tells uint64) bool {
	a.m.met[fmt.Sprintf("%s%s: %d", a.kind, a.line, e)]++
	if a.kind == "Depend" {
		a.m.met[fmt.Sprintf("Depend%s: %d, came %d", a.line, e, tells)]++
	}
	a.over, a.code, a.tells = true, e, tells
	return true
}

// to says what the next line is.
func (a *actor) to(line string) bool {
	a.m.met[a.kind+a.line+" to "+line]++
	a.line = line
	return false
}

// fail ends it if there is an error; else the next line is as said.
func (a *actor) fail(e api.Errno, line string) bool {
	if e != api.OK {
		return a.done(e, 0)
	}
	return a.to(line)
}

func (a *actor) Step() bool {
	if a.over {
		return true
	}
	if a.line == "" {
		if a.kind != "Floor" && !a.m.isPlace(a.id) || a.kind == "Depend" && !a.m.isPlace(a.on) {
			return a.done(api.ErrTx, 0)
		}
		if a.kind == "Depend" && a.id == a.on {
			return a.done(api.ErrArg, 0)
		}
		a.line = "1"
	}
	switch a.kind {
	case "Start":
		return a.start()
	case "Draw":
		return a.draw()
	case "Depend":
		return a.depend()
	case "Close":
		return a.close()
	case "Floor":
		return a.floor()
	}
	return a.leave()
}

func (a *actor) start() bool {
	var e api.Errno
	switch a.line {
	case "1":
		a.x, e = a.m.Clock()
		if a.x++; a.x == 1<<62 {
			a.x--
			a.m.met["Start at the end"]++
		}
		return a.to("2")
	case "2":
		return a.fail(a.m.Announce(a.id, a.x), "3")
	case "3":
		a.x, e = a.m.Tick()
		return a.fail(e, "4")
	}
	if e = a.m.Announce(a.id, a.x); e != api.OK {
		return a.done(e, 0)
	}
	return a.done(api.OK, a.x)
}

func (a *actor) draw() bool {
	var e api.Errno
	switch a.line {
	case "1":
		if a.x, e = a.m.End(a.id); a.x != 0 {
			return a.done(api.OK, a.x)
		}
		return a.fail(e, "2")
	case "2":
		a.x, e = a.m.Tick()
		return a.fail(e, "3")
	case "3":
		s := a.m.find(a.id)
		if s == nil {
			return a.done(api.ErrTx, 0)
		}
		if s.End == 0 {
			s.End = a.x
			return a.done(api.OK, a.x)
		}
		return a.to("4")
	}
	a.x, e = a.m.End(a.id)
	return a.done(e, a.x)
}

// add adds to a word.
func (a *actor) add(id int, d uint64) api.Errno {
	s := a.m.find(id)
	if s == nil {
		return api.ErrTx
	}
	s.Word += d
	return api.OK
}

func (a *actor) depend() bool {
	switch a.line {
	case "1":
		return a.fail(a.add(a.id, 1), "read")
	case "read":
		s := a.m.find(a.on)
		if s == nil {
			return a.to("fall, lost")
		}
		switch s.Places[a.place] {
		case 0:
			return a.to("swap")
		case uint64(a.id):
			return a.to("fall, taken")
		case closedPlace:
			return a.to("fall, closed")
		}
		if a.place++; a.place == 8 {
			return a.to("fall, full")
		}
		return a.to("read")
	case "swap":
		s := a.m.find(a.on)
		switch {
		case s == nil:
			return a.to("fall, lost")
		case s.Places[a.place] != 0:
			return a.to("read")
		}
		s.Places[a.place] = uint64(a.id)
		return a.done(api.OK, api.DepTaken)
	case "state":
		state, e := a.m.State(a.on)
		if e != api.OK {
			return a.done(e, 0)
		}
		return a.done(api.OK, []uint64{0, 0, 0, api.DepCommitted, api.DepAborted, api.DepGone}[state])
	}
	e := a.add(a.id, 1<<64-1)
	switch {
	case a.line == "fall, lost":
		return a.done(api.ErrTx, 0)
	case e != api.OK:
		return a.done(e, 0)
	case a.line == "fall, closed":
		return a.to("state")
	case a.line == "fall, full":
		return a.done(api.OK, api.DepFull)
	}
	return a.done(api.OK, api.DepTaken)
}

func (a *actor) close() bool {
	switch a.line {
	case "1":
		state, e := a.m.State(a.id)
		if e == api.OK && state != api.TxCommitted && state != api.TxAborted {
			e = api.ErrState
		}
		a.delta = map[int]uint64{api.TxCommitted: 1<<64 - 1, api.TxAborted: 1<<32 - 1}[state]
		return a.fail(e, "read")
	case "read":
		s := a.m.find(a.id)
		if s == nil {
			return a.done(api.ErrTx, 0)
		}
		a.x = s.Places[a.place]
		if a.x == closedPlace {
			return a.nextPlace()
		}
		return a.to("swap")
	case "swap":
		s := a.m.find(a.id)
		switch {
		case s == nil:
			return a.done(api.ErrTx, 0)
		case s.Places[a.place] != a.x:
			return a.to("read")
		}
		s.Places[a.place] = closedPlace
		if a.x != 0 {
			return a.to("tell")
		}
		return a.nextPlace()
	}
	if a.add(int(a.x), a.delta) == api.OK {
		a.count++
	} else {
		a.m.met["Close tells nobody"]++
	}
	return a.nextPlace()
}

func (a *actor) nextPlace() bool {
	if a.place++; a.place == 8 {
		return a.done(api.OK, a.count)
	}
	return a.to("read")
}

func (a *actor) floor() bool {
	if a.line == "1" {
		a.x, _ = a.m.Clock()
		a.x++
		return a.to("read")
	}
	a.place++
	if b, _ := a.m.Announced(a.place); b != 0 && b < a.x {
		a.m.met["Floor falls"]++
		a.x = b
	}
	if a.place == len(a.m.places) {
		return a.done(api.OK, a.x)
	}
	return a.to("read")
}

// leave is Leave's and Quit's.
func (a *actor) leave() bool {
	switch a.line {
	case "1":
		return a.fail(a.m.Move(a.id, api.TxTerminated), "2")
	case "2":
		return a.fail(a.m.Announce(a.id, 0), "3")
	case "3":
		if a.kind == "Quit" {
			return a.done(a.m.Drop(a.id), 0)
		}
		a.x, _ = a.m.Clock()
		return a.to("4")
	}
	return a.done(a.m.Retire(a.id, a.x), 0)
}

// twins are a machine and the model of it.
type twins struct {
	real machine
	plan *actor
}

func someNumber(source *rand.Rand, places int) int {
	if source.Intn(25) == 0 {
		return source.Intn(places+5) - 2
	}
	return 1 + source.Intn(places)
}

func someStamp(source *rand.Rand, clock uint64) uint64 {
	if source.Intn(8) == 0 {
		all := stamps()
		return all[source.Intn(len(all))]
	}
	return clock + 3 - uint64(source.Intn(7))
}

// beginTwins begins one of the machines, some with wrong arguments.
func beginTwins(w *world, m *memory, source *rand.Rand, crowd bool) twins {
	id, on, kind := someNumber(source, len(m.places)), someNumber(source, len(m.places)), source.Intn(14)
	switch full := m.places[0].Places[7] != 0; {
	case crowd && full && kind > 7:
		id, kind = 1, 8
		want(w.t, "P6.4: Move", w.Move(1, api.TxAborted), m.Move(1, api.TxAborted))
	case crowd:
		on, kind = 1, 3
	}
	plan := &actor{m: m, id: id, on: on}
	switch kind {
	case 0:
		plan.kind = "Start"
		return twins{w.Start(id), plan}
	case 1, 2:
		plan.kind = "Draw"
		return twins{w.Draw(id), plan}
	case 3, 4, 5, 6, 7:
		plan.kind = "Depend"
		return twins{w.Depend(id, on), plan}
	case 8, 9, 10:
		plan.kind = "Close"
		return twins{w.Close(id), plan}
	case 11:
		plan.kind = "Floor"
		return twins{w.Floor(), plan}
	case 12:
		plan.kind = "Leave"
		return twins{w.Leave(id), plan}
	}
	plan.kind = "Quit"
	return twins{w.Quit(id), plan}
}

// both makes a call of both and holds the answers against each other.
func both(w *world, m *memory, source *rand.Rand) {
	id, clock := someNumber(source, len(m.places)), m.clock
	n, stamp, info := source.Intn(7), someStamp(source, clock), api.TxInfo{Session: source.Intn(9), Iso: source.Intn(5)}
	switch source.Intn(16) {
	case 0:
		want(w.t, "P6.2: Clock", pair(w.Clock()), pair(m.Clock()))
	case 1:
		want(w.t, "P6.2: Tick", pair(w.Tick()), pair(m.Tick()))
	case 2, 3, 4:
		want(w.t, "P6.3: Open", pair(w.Open(info)), pair(m.Open(info)))
	case 5:
		want(w.t, "P6.4: State", pair(w.State(id)), pair(m.State(id)))
	case 6, 7, 8:
		want(w.t, "P6.4: Move", w.Move(id, n), m.Move(id, n))
	case 9:
		want(w.t, "P6.5: Announced", pair(w.Announced(id)), pair(m.Announced(id)))
	case 10:
		want(w.t, "P6.5: Announce", w.Announce(id, stamp), m.Announce(id, stamp))
	case 11:
		want(w.t, "P6.6: End", pair(w.End(id)), pair(m.End(id)))
	case 12:
		want(w.t, "P6.6: Waits", triple(w.Waits(id)), triple(m.Waits(id)))
	case 13:
		want(w.t, "P6.7: Retire", w.Retire(id, stamp), m.Retire(id, stamp))
	case 14:
		want(w.t, "P6.7: Free", pair(w.Free(stamp)), pair(m.Free(stamp)))
	case 15:
		want(w.t, "P6.7: Drop", w.Drop(id), m.Drop(id))
	}
}

// compare holds all that is to be seen against the model.
func compare(t *testing.T, w *world, m *memory) {
	t.Helper()
	a, b := w.Inside(), m.inside()
	if a.Clock != b.Clock || !slices.Equal(a.Free, b.Free) || !slices.Equal(a.Waiting, b.Waiting) || !slices.Equal(a.Records, b.Records) {
		t.Errorf("the table is %v, want %v", a, b)
	}
	if w.Accesses() != m.accesses || w.Misses() != m.misses || w.Waiting() != len(m.waiting) {
		t.Errorf("accesses, misses, waiting: %d, %d, %d, want %d, %d, %d", w.Accesses(), w.Misses(), w.Waiting(), m.accesses, m.misses, len(m.waiting))
	}
	floor := m.clock + 1
	var live []int
	for i, s := range m.places {
		if s.Announced != 0 {
			floor = min(floor, s.Announced)
		}
		state, end, e := w.Look(i + 1)
		info, f := w.Info(i + 1)
		right := api.ErrTx
		if s.used {
			live, right = append(live, i+1), api.OK
		}
		if state != s.State || end != s.End || e != right || info != s.Info || f != right {
			t.Errorf("Look(%d), Info(%d): %d, %d, %d, %v, %d, want %v", i+1, i+1, state, end, e, info, f, s)
		}
	}
	c, f := w.Horizon()
	if c != m.clock || f != floor || !slices.Equal(w.Live(), live) {
		t.Errorf("Horizon, Live: %d, %d, %v, want %d, %d, %v", c, f, w.Live(), m.clock, floor, live)
	}
}

// playTwins steps several machines by turns as chance has it, each beside its model, with calls by hand in between.
func playTwins(t *testing.T, seed int64, calls int) map[string]int {
	source := rand.New(rand.NewSource(seed))
	slots, clock := 1+source.Intn(12), uint64(source.Intn(4))
	crowd := source.Intn(4) == 0 // all depend on one
	if crowd {
		slots, calls = 12, 5
	}
	if source.Intn(8) == 0 {
		clock = api.MaxTime - uint64(source.Intn(12))
	}
	w, m := newWorld(t, slots, clock, 0), newMemory(slots, clock)
	for range slots {
		if crowd || source.Intn(5) > 0 {
			want(t, "P6.3: Open", pair(w.Open(api.TxInfo{})), pair(m.Open(api.TxInfo{})))
		}
	}
	all := make([]twins, 1+source.Intn(6))
	for i := range all {
		all[i] = beginTwins(w, m, source, crowd)
	}
	for range 250 {
		for source.Intn(100) < calls {
			both(w, m, source)
		}
		i := source.Intn(len(all))
		if all[i].plan.over && source.Intn(3) > 0 {
			all[i] = beginTwins(w, m, source, crowd)
		}
		what := all[i].plan.String()
		done := all[i].real.Step()
		want(t, "whether a step is the last", done, all[i].plan.Step())
		for _, a := range all {
			if a.real.Code() != a.plan.code || told(a.real) != a.plan.tells {
				t.Errorf("what %v tells: %d, %d, want %d, %d", a.plan, a.real.Code(), told(a.real), a.plan.code, a.plan.tells)
			}
		}
		compare(t, w, m)
		if t.Failed() {
			t.Fatalf("seed %d: a step of %s", seed, what)
		}
	}
	return m.met
}

// Every step's access and every answer is as the chapter's lines say, by the rules and against them.
func TestEveryStepIsAsWritten(t *testing.T) {
	met := map[string]int{}
	for seed := range int64(3000) {
		for kind, n := range playTwins(t, seed, []int{5, 20, 50}[seed%3]) {
			met[kind] += n
		}
	}
	for _, kind := range []string{
		"Start: 60", "Start2: 60", "Start3: 61", "Start4: 60", "Start4: 0", "Start at the end",
		"Draw: 60", "Draw1: 60", "Draw1: 0", "Draw2: 61", "Draw3: 60", "Draw3: 0", "Draw4: 0", "Draw4: 60",
		"Depend: 60", "Depend: 2", "Depend1: 60", "Dependread to swap", "Dependread to read", "Dependread to fall, taken", "Dependread to fall, closed", "Dependread to fall, full", "Dependread to fall, lost",
		"Dependswap to fall, lost", "Dependswap to read", "Dependswap: 0", "Dependfall, lost: 60", "Dependfall, taken: 60", "Dependfall, closed: 60", "Dependfall, taken: 0, came 1", "Dependfall, full: 0, came 4",
		"Dependstate: 60", "Dependstate: 0, came 0", "Dependstate: 0, came 2", "Dependstate: 0, came 3", "Dependstate: 0, came 5",
		"Close: 60", "Close1: 60", "Close1: 3", "Closeread: 60", "Closeswap: 60", "Closeswap to read", "Closeread to read", "Closeswap to tell", "Closetell to read", "Closeread: 0", "Closeswap: 0", "Closetell: 0", "Close tells nobody",
		"Floor falls", "Floorread: 0", "Floorread to read", "Leave: 60", "Leave1: 60", "Leave1: 62", "Leave2: 60", "Leave4: 60", "Leave4: 3", "Leave4: 0", "Quit: 60", "Quit1: 60", "Quit1: 62", "Quit2: 60", "Quit3: 60", "Quit3: 3", "Quit3: 0",
	} {
		if met[kind] < 10 {
			t.Errorf("the runs have hardly met %q: %d times", kind, met[kind])
		}
	}
}
