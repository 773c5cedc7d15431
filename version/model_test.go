package version_test

import (
	"fmt"
	"iter"
	"math/rand"
	"slices"
	"strings"
	"testing"

	"strata/api"
	"strata/bits"
	"strata/version"
)

// script is a machine as the chapter's lines have it, written down one behind the other. It works on the parts of a base of its own; turn stands ahead of each access, and it rests there till the next step.
type script struct {
	*version.Base // of which the parts alone are used
	name          string
	pull          func() (int, bool)
	stop          func()
	yield         func(int) bool
	made          bool // an access was made in this step
	over          bool
	code          api.Errno
	tells         any
	silence       any // what it tells till it is done with its answer
	met           map[string]int
}

// halt is how a script comes to its end from deep inside.
type halt struct{}

func newScript(b *version.Base, met map[string]int, name string, silence any, lines func(*script)) *script {
	s := &script{Base: b, met: met, name: name, tells: silence, silence: silence}
	s.pull, s.stop = iter.Pull(func(yield func(int) bool) {
		defer func() {
			if x := recover(); x != nil && x != (halt{}) {
				panic(x)
			}
		}()
		s.yield = yield
		lines(s)
	})
	return s
}

func (s *script) Step() bool {
	if !s.over {
		s.made = false
		_, more := s.pull()
		s.over = !more
	}
	return s.over
}

// turn lets a step end, if it has made its access.
func (s *script) turn() {
	if s.made && !s.yield(0) {
		panic(halt{})
	}
	s.made = true
}

// done ends the script.
func (s *script) done(e api.Errno, tells any) {
	s.meet(fmt.Sprintf("%d", e))
	s.code, s.tells = e, tells
	panic(halt{})
}

// fail ends it where something is refused.
func (s *script) fail(e api.Errno) {
	if e != api.OK {
		s.done(e, s.silence)
	}
}

// meet notes that a line was come to.
func (s *script) meet(line string) { s.met[strings.Fields(s.name)[0]+" "+line]++ }

// play runs a part to its end.
func (s *script) play(m machine) {
	for s.turn(); !m.Step(); s.turn() {
	}
	s.fail(m.Code())
}

func (s *script) load(slot, cell int) uint64 {
	s.turn()
	w, e := s.Cells.Load(slot, cell)
	s.fail(e)
	return w
}

func (s *script) store(slot, cell int, w uint64) {
	s.turn()
	s.fail(s.Cells.Store(slot, cell, w))
}

func (s *script) cas(slot, cell int, old, fresh uint64) bool {
	s.turn()
	swapped, e := s.Cells.CAS(slot, cell, old, fresh)
	s.fail(e)
	return swapped
}

func (s *script) state(id int) int {
	s.turn()
	state, e := s.Tx.State(id)
	s.fail(e)
	return state
}

func (s *script) end(id int) uint64 {
	s.turn()
	end, e := s.Tx.End(id)
	s.fail(e)
	return end
}

func (s *script) draw(id int) uint64 {
	m := s.Tx.Draw(id)
	s.play(m)
	return m.End()
}

func (s *script) depend(id, on int) int {
	m := s.Tx.Depend(id, on)
	s.play(m)
	return m.Came()
}

// known looks at the number of a transaction.
func (s *script) known(id, least int) {
	if id < least || id > s.Tx.Places() {
		s.fail(api.ErrTx)
	}
}

// split tells what a word is.
func split(w uint64) (string, uint64) {
	switch {
	case w == 1<<63-1:
		return "infinity", 0
	case w>>62 == 0:
		return "time", w
	case w>>62 == 2:
		return "transaction", w - 1<<63
	}
	return "bad", 0
}

// sight is P7.5 and P7.6: it answers none, seen or busy.
func (s *script) sight(id, slot int, at uint64, later int) int {
	var w, end uint64
	var number uint64
	var kind string
	var o, perhaps int

B:
	w = s.load(slot, api.CellBegin)
	kind, number = split(w)
	switch {
	case kind == "infinity":
		s.meet("B infinity")
		return none
	case kind == "bad":
		s.fail(api.ErrRange)
	case kind == "time" && number > at:
		s.meet("B later")
		return later
	case kind == "time":
		s.meet("B time")
		goto E
	case id != 0 && number == uint64(id):
		s.meet("B own")
		goto E
	}
	o = int(number)
	switch s.state(o) {
	case api.TxActive:
		s.meet("B active")
		return later
	case api.TxAborted:
		s.meet("B aborted")
		return none
	case api.TxTerminated:
		s.meet("B terminated")
		goto B
	case api.TxCommitted:
		if s.end(o) > at {
			s.meet("B committed later")
			return later
		}
		s.meet("B committed")
	case api.TxPreparing:
		end = s.draw(o)
		switch {
		case end > at:
			s.meet("B preparing later")
			return later
		case id == 0:
			s.meet("B preparing, nobody")
			return later
		}
		s.meet("B preparing")
		perhaps = o
	}

E:
	w = s.load(slot, api.CellEnd)
	kind, number = split(w)
	switch {
	case kind == "infinity":
		s.meet("E infinity")
		goto Yes
	case kind == "bad":
		s.fail(api.ErrRange)
	case kind == "time" && number > at:
		s.meet("E later")
		goto Yes
	case kind == "time":
		s.meet("E time")
		return none
	case id != 0 && number == uint64(id):
		s.meet("E own")
		return none
	}
	o = int(number)
	switch s.state(o) {
	case api.TxActive:
		s.meet("E active")
	case api.TxAborted:
		s.meet("E aborted")
	case api.TxTerminated:
		s.meet("E terminated")
		goto E
	case api.TxCommitted:
		if s.end(o) <= at {
			s.meet("E committed")
			return none
		}
		s.meet("E committed later")
	case api.TxPreparing:
		end = s.draw(o)
		switch {
		case end > at:
			s.meet("E preparing later")
			goto Yes
		case id == 0:
			s.meet("E preparing, nobody")
			return none
		}
		came := s.depend(id, o)
		s.meet(fmt.Sprint("E depends ", came))
		switch came {
		case api.DepTaken, api.DepCommitted, api.DepNone:
			return none
		case api.DepGone:
			goto E
		case api.DepFull:
			s.fail(api.ErrDeps)
		}
	}

Yes:
	if perhaps == 0 {
		return seen
	}
	came := s.depend(id, perhaps)
	s.meet(fmt.Sprint("Yes depends ", came))
	switch came {
	case api.DepTaken, api.DepCommitted:
		return seen
	case api.DepGone:
		perhaps = 0
		goto B
	case api.DepFull:
		s.fail(api.ErrDeps)
	}
	return none
}

func (s *script) lock(id, slot int) {
	s.known(id, 1)
	mine := uint64(id) + 1<<63
	for {
		w := s.load(slot, api.CellEnd)
		kind, number := split(w)
		switch {
		case w == mine:
			s.meet("own")
			s.done(api.OK, nil)
		case kind == "time":
			s.meet("time")
			s.done(api.ErrConflict, nil)
		case kind == "bad":
			s.fail(api.ErrRange)
		case kind == "transaction":
			state := s.state(int(number))
			s.meet(fmt.Sprint("state ", state))
			if state == api.TxTerminated {
				continue
			}
			if state != api.TxAborted {
				s.done(api.ErrConflict, nil)
			}
		}
		if s.cas(slot, api.CellEnd, w, mine) {
			s.meet("swaps " + kind)
			s.done(api.OK, nil)
		}
		s.meet("swaps in vain " + kind)
	}
}

// make is Make's and Load's, behind the look at the begin word.
func (s *script) make(begin uint64, key, data string) {
	if len(key) < 1 || len(key) > 160 || len(data) > 512 {
		s.fail(api.ErrKey)
	}
	s.turn()
	slot, e := s.Cells.Alloc(api.Entry{Name: key, Data: data, Tall: bits.Height(key, 4)}, begin, 1<<63-1)
	s.fail(e)
	s.tells, s.silence = slot, slot
	s.play(s.Hash.Insert(int(bits.Hash(key)%uint64(s.Hash.Buckets())), slot))
	s.play(s.Order.Insert(slot))
	s.done(api.OK, slot)
}

// tour goes along a walk, and looks at each version of a key.
func (s *script) tour(walk interface {
	machine
	Slot() int
	Ended() bool
}, key string, look func(slot int)) {
	for !walk.Ended() {
		s.turn()
		if !walk.Step() {
			continue
		}
		s.fail(walk.Code())
		slot := walk.Slot()
		if slot == 0 {
			break
		}
		entry, e := s.Cells.Payload(slot)
		s.fail(e)
		if entry.Name != key {
			s.meet("passes by")
			continue
		}
		look(slot)
	}
	s.meet("at the end")
	s.done(api.OK, 0)
}

func (s *script) find(id int, key string, at uint64) {
	s.known(id, 0)
	s.tour(s.Hash.Walk(int(bits.Hash(key)%uint64(s.Hash.Buckets()))), key, func(slot int) {
		if s.sight(id, slot, at, none) == seen {
			s.meet("sees")
			s.done(api.OK, slot)
		}
		s.meet("sees not")
	})
}

func (s *script) free(id, slot int, at uint64) {
	s.known(id, 0)
	entry, e := s.Cells.Payload(slot)
	s.fail(e)
	s.tour(s.Hash.Behind(slot), entry.Name, func(old int) {
		switch s.sight(id, old, at, busy) {
		case seen:
			s.done(api.ErrDuplicate, old)
		case busy:
			s.done(api.ErrConflict, 0)
		}
		s.meet("free of one")
	})
}

func (s *script) fix(id int, made, taken []int, commit bool, stamp uint64) {
	s.known(id, 1)
	if commit && stamp > api.MaxTime {
		s.fail(api.ErrRange)
	}
	for _, slot := range made {
		if commit {
			s.store(slot, api.CellBegin, stamp)
		} else {
			s.store(slot, api.CellBegin, 1<<63-1)
		}
	}
	for _, slot := range taken {
		if commit {
			s.store(slot, api.CellEnd, stamp)
		} else {
			s.meet(fmt.Sprint("swaps ", s.cas(slot, api.CellEnd, uint64(id)+1<<63, 1<<63-1)))
		}
	}
	s.done(api.OK, nil)
}

// twins are a machine and its script.
type twins struct {
	real machine
	plan *script
}

// pairOfWorlds are a base with its machines, and one with the scripts.
type pairOfWorlds struct {
	*world
	other  *version.Base
	source *rand.Rand
	met    map[string]int
	all    []twins
	crowd  bool // all look at what one transaction does
}

func keysOfModel() []string { return []string{"a", "b", "q", "zz", "k"} }

func (p *pairOfWorlds) someKey() string {
	if p.source.Intn(20) == 0 {
		return strings.Repeat("k", []int{0, 160, 161}[p.source.Intn(3)])
	}
	return keysOfModel()[p.source.Intn(3+2*p.source.Intn(2))]
}

func (p *pairOfWorlds) someNumber(least int) int {
	if p.source.Intn(25) == 0 {
		return p.source.Intn(p.Tx.Places()+4) - 1
	}
	return least + p.source.Intn(p.Tx.Places()+1-least)
}

func (p *pairOfWorlds) someSlot() int {
	live := p.Cells.Live()
	if len(live) == 0 || p.source.Intn(25) == 0 {
		return p.source.Intn(14) - 1
	}
	if p.source.Intn(2) == 0 {
		return live[0] // where much is going on
	}
	return live[p.source.Intn(len(live))]
}

func (p *pairOfWorlds) someStamp() uint64 {
	if p.source.Intn(12) == 0 {
		all := stamps()
		return all[p.source.Intn(len(all))]
	}
	clock, _ := p.Tx.Horizon()
	return clock + 4 - uint64(p.source.Intn(7))
}

func (p *pairOfWorlds) someWord() uint64 {
	switch p.source.Intn(12) {
	case 0:
		return badWords()[p.source.Intn(len(badWords()))]
	case 1, 2:
		return api.Infinity
	case 3, 4:
		return p.someStamp()
	}
	return word(p.someNumber(1))
}

// meddle does one thing by hand to both worlds.
func (p *pairOfWorlds) meddle() {
	id, slot, w, n, stamp := p.someNumber(1), p.someSlot(), p.someWord(), 1+p.source.Intn(5), p.someStamp()
	cell := p.source.Intn(2)
	kind := p.source.Intn(26)
	for _, b := range []*version.Base{p.Base, p.other} {
		alone := func(m machine) { // slots that were freed while they were linked may have made a ring
			for n := 0; n < 200 && !m.Step(); n++ {
			}
		}
		switch kind {
		case 0, 1:
			b.Tx.Open(api.TxInfo{})
		case 2, 3, 4, 5, 6, 7:
			b.Tx.Move(id, n)
		case 8:
			b.Tx.Tick()
		case 9:
			alone(b.Tx.Draw(id))
		case 10, 11, 12:
			alone(b.Tx.Close(id))
		case 13:
			alone(b.Tx.Leave(id))
			b.Tx.Free(stamp)
		case 14:
			alone(b.Tx.Quit(id))
		case 15:
			if n == 5 {
				b.Cells.Free(slot)
			}
		case 16:
			if n > 3 {
				b.Cells.Store(slot, api.CellHash, []uint64{0, 2 * (api.MaxSlots + 2)}[n%2])
			}
		case 17:
			if n == 5 {
				alone(b.Hash.Remove(0, slot))
			}
		case 18:
			if n == 5 {
				alone(b.Tx.Depend(id, p.Tx.Places()))
			}
		default:
			b.Cells.Store(slot, cell, w)
		}
	}
}

// advance leads transaction 1, on whose fate the crowd hangs, from state to state, and in the end to another life.
func (p *pairOfWorlds) advance() {
	state, _, _ := p.Tx.Look(1)
	next := []int{api.TxCommitted, api.TxAborted}[p.source.Intn(2)]
	for _, b := range []*version.Base{p.Base, p.other} {
		switch state {
		case api.TxActive:
			b.Tx.Move(1, api.TxPreparing)
		case api.TxPreparing:
			b.Tx.Move(1, next)
			for m := b.Tx.Close(1); !m.Step(); {
			}
		case api.TxCommitted, api.TxAborted:
			b.Tx.Move(1, api.TxTerminated)
		case api.TxTerminated:
			b.Tx.Drop(1)
			b.Tx.Open(api.TxInfo{})
		}
	}
}

// begin begins a machine and its script.
func (p *pairOfWorlds) begin() twins {
	id, slot, at, key, data := p.someNumber(0), p.someSlot(), p.someStamp(), p.someKey(), strings.Repeat("d", []int{0, 1, 512, 513}[p.source.Intn(23)/7])
	made, taken := p.someSlots(), p.someSlots()
	if p.crowd {
		return p.beginLook(2+p.source.Intn(11), 1, 1<<60)
	}
	lay := func(name string, silence any, lines func(*script)) *script {
		return newScript(p.other, p.met, fmt.Sprint(name, " ", id, slot, at, key), silence, lines)
	}
	switch p.source.Intn(14) {
	case 0:
		return twins{p.Make(id, key, data), lay("Make", 0, func(s *script) {
			s.known(id, 1)
			s.make(uint64(id)+1<<63, key, data)
		})}
	case 1:
		return twins{p.Load(at, key, data), lay("Load", 0, func(s *script) {
			if at > 1<<62-1 {
				s.fail(api.ErrRange)
			}
			s.make(at, key, data)
		})}
	case 2, 3:
		return twins{p.Lock(id, slot), lay("Lock", nil, func(s *script) { s.lock(id, slot) })}
	case 4, 5:
		return twins{p.Find(id, key, at), lay("Find", 0, func(s *script) { s.find(id, key, at) })}
	case 6, 7:
		return twins{p.Free(id, slot, at), lay("Free", 0, func(s *script) { s.free(id, slot, at) })}
	case 8:
		return twins{p.Commit(id, made, taken, at), lay("Commit", nil, func(s *script) { s.fix(id, made, taken, true, at) })}
	case 9:
		return twins{p.Undo(id, made, taken), lay("Undo", nil, func(s *script) { s.fix(id, made, taken, false, 0) })}
	}
	return p.beginLook(id, slot, at)
}

// beginLook begins a look at a version.
func (p *pairOfWorlds) beginLook(id, slot int, at uint64) twins {
	name := fmt.Sprint(" ", id, slot, at)
	if p.source.Intn(2) == 0 {
		return twins{p.See(id, slot, at), newScript(p.other, p.met, "See"+name, false, func(s *script) {
			s.known(id, 0)
			s.done(api.OK, s.sight(id, slot, at, none) == seen)
		})}
	}
	return twins{p.Bar(id, slot, at), newScript(p.other, p.met, "Bar"+name, 0, func(s *script) {
		s.known(id, 0)
		s.done(api.OK, s.sight(id, slot, at, busy))
	})}
}

func (p *pairOfWorlds) someSlots() []int {
	var list []int
	for range p.source.Intn(4) {
		list = append(list, p.someSlot())
	}
	return list
}

// compare holds what is to be seen of both worlds against each other.
func (p *pairOfWorlds) compare() {
	t := p.t
	if p.Accesses() != p.other.Accesses() || p.Misses() != p.other.Misses() {
		t.Errorf("P7.2: accesses, misses: %d, %d, want %d, %d", p.Accesses(), p.Misses(), p.other.Accesses(), p.other.Misses())
	}
	live := p.Cells.Live()
	if !slices.Equal(live, p.other.Cells.Live()) {
		t.Errorf("the slots in use: %v, want %v", live, p.other.Cells.Live())
	}
	for _, slot := range live {
		got, _ := p.Cells.Peek(slot)
		right, _ := p.other.Cells.Peek(slot)
		if !slices.Equal(got, right) {
			t.Errorf("the cells of %d: %v, want %v", slot, got, right)
		}
	}
	for id := 1; id <= p.Tx.Places(); id++ {
		a, b, _ := p.Tx.Look(id)
		c, d, _ := p.other.Tx.Look(id)
		if a != c || b != d {
			t.Errorf("transaction %d: %d, %d, want %d, %d", id, a, b, c, d)
		}
	}
	for _, x := range p.all {
		if x.real.Code() != x.plan.code || told(x.real) != x.plan.tells {
			t.Errorf("what %s tells: %d, %v, want %d, %v", x.plan.name, x.real.Code(), told(x.real), x.plan.code, x.plan.tells)
		}
	}
}

// playTwins steps several machines by turns as chance has it, each beside its script, with meddling in between.
func playTwins(t *testing.T, seed int64, meddling int, met map[string]int) {
	source := rand.New(rand.NewSource(seed))
	config := api.Config{Slots: 1 + source.Intn(10), Buckets: 1 + source.Intn(2), TxSlots: 1 + source.Intn(4), Clock: uint64(source.Intn(4))}
	p := &pairOfWorlds{source: source, met: met, crowd: source.Intn(5) == 0}
	if p.crowd {
		config.TxSlots, config.Slots = 12, 4
	}
	if source.Intn(6) == 0 {
		config.Clock = api.MaxTime - uint64(source.Intn(6))
	}
	p.world = newWorld(t, config.Slots, config.Buckets, config.TxSlots, config.Clock)
	p.other, _ = version.New(config)
	place := source.Intn(2) // the cell that the crowd looks at
	for _, b := range []*version.Base{p.Base, p.other} {
		for i := range config.TxSlots {
			if !p.crowd && i%4 == 3 {
				break
			}
			id, _ := b.Tx.Open(api.TxInfo{})
			if i%2 == 0 {
				b.Tx.Move(id, api.TxPreparing)
			}
		}
		for i := range config.Slots - config.Slots/3 {
			for m := b.Load(uint64(i%3), keysOfModel()[i%3], ""); !m.Step(); {
			}
			if i < 3 {
				b.Cells.Store(i+1, i%2, word(1+i))
			}
		}
		if p.crowd {
			b.Cells.Store(1, place, word(1))
			b.Cells.Store(1, 1-place, []uint64{0, api.Infinity}[1-place])
		}
	}
	p.all = make([]twins, 1+source.Intn(8))
	for i := range p.all {
		p.all[i] = p.begin()
	}
	steps := 200
	if p.crowd {
		steps = 450
	}
	for range steps {
		if !p.crowd {
			for source.Intn(100) < meddling {
				p.meddle()
			}
		} else if source.Intn(500) < meddling {
			for range 1 + source.Intn(3) {
				p.advance()
			}
		}
		i := source.Intn(len(p.all))
		if p.all[i].plan.over && source.Intn(4) > 0 {
			p.all[i] = p.begin()
		}
		what := p.all[i].plan.name
		_, done := p.step(p.all[i].real)
		if done != p.all[i].plan.Step() {
			t.Errorf("whether a step of %s is the last: %v", what, done)
		}
		p.compare()
		if t.Failed() {
			t.Fatalf("seed %d: a step of %s", seed, what)
		}
	}
	for _, x := range p.all {
		x.plan.stop()
	}
	if dump(p.Base) != dump(p.other) {
		t.Fatalf("seed %d: the bases are not alike at the end", seed)
	}
}

// Every step's access and every answer is as the chapter's lines say, by the rules and against them.
func TestEveryStepIsAsWritten(t *testing.T) {
	met := map[string]int{}
	for seed := range int64(4000) {
		playTwins(t, seed, []int{3, 10, 25, 50}[seed%4], met)
	}
	var lines []string
	for _, name := range []string{"See", "Bar", "Find", "Free"} {
		for _, line := range []string{
			"B infinity", "B later", "B time", "B own", "B active", "B aborted", "B terminated", "B committed later", "B committed", "B preparing later", "B preparing, nobody", "B preparing",
			"E infinity", "E later", "E time", "E own", "E active", "E aborted", "E terminated", "E committed later", "E committed", "E preparing later", "E preparing, nobody", "E depends 1", "Yes depends 1",
			"60", "10", "22", "61",
		} {
			if rare := strings.Contains(line, "committed later"); !rare || name == "See" || name == "Bar" {
				lines = append(lines, name+" "+line)
			}
		}
	}
	for _, name := range []string{"See", "Bar"} {
		for _, line := range []string{"E depends 0", "E depends 2", "E depends 3", "E depends 4", "E depends 5", "Yes depends 0", "Yes depends 2", "Yes depends 3", "Yes depends 4", "Yes depends 5", "70", "0"} {
			lines = append(lines, name+" "+line)
		}
	}
	lines = append(lines,
		"Make 0", "Make 60", "Make 72", "Make 21", "Make 22", "Load 0", "Load 10", "Load 72", "Load 21", "Load 22",
		"Lock 0", "Lock 60", "Lock 22", "Lock 10", "Lock own", "Lock time", "Lock state 1", "Lock state 2", "Lock state 3", "Lock state 4", "Lock state 5", "Lock swaps infinity", "Lock swaps transaction", "Lock swaps in vain infinity", "Lock swaps in vain transaction",
		"Find 0", "Find sees", "Find sees not", "Find passes by", "Find at the end", "Find 42", "Find 43", "Free passes by", "Free free of one", "Free at the end", "Free 105", "Free 71", "Free 42", "Free 0",
		"Commit 0", "Commit 60", "Commit 10", "Commit 22", "Undo 0", "Undo 60", "Undo 22", "Undo swaps true", "Undo swaps false",
	)
	for _, line := range lines {
		if met[line] < 5 {
			t.Errorf("the runs have hardly met %q: %d times", line, met[line])
		}
	}
}
