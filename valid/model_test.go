package valid_test

import (
	"fmt"
	"iter"
	"math/rand"
	"slices"
	"strings"
	"testing"

	"strata/api"
	"strata/valid"
	"strata/version"
)

// script is a machine as the chapter's lines have it, written down one behind the other. It works on a base of its own; turn stands ahead of each access, and it rests there till the next step.
type script struct {
	*version.Base
	name   string
	id     int
	slots  []int
	ranges []valid.Range
	at     uint64
	pull   func() (int, bool)
	stop   func()
	yield  func(int) bool
	made   bool // an access was made in this step
	over   bool
	code   api.Errno
	met    map[string]int
}

// halt is how a script comes to its end from deep inside.
type halt struct{}

func (s *script) begin(lines func() api.Errno) *script {
	s.pull, s.stop = iter.Pull(func(yield func(int) bool) {
		defer func() {
			if x := recover(); x != nil && x != (halt{}) {
				panic(x)
			}
		}()
		s.yield = yield
		s.code = lines()
		s.meet(fmt.Sprint(int(s.code)))
	})
	return s
}

func (s *script) Step() bool {
	if !s.over {
		s.made = false
		_, more := s.pull()
		s.over = !more
	}
	return s.over
}

// turn lets a step end, if it has made its access.
func (s *script) turn() {
	if s.made && !s.yield(0) {
		panic(halt{})
	}
	s.made = true
}

// meet notes that a line was come to.
func (s *script) meet(line string) { s.met[strings.Fields(s.name)[0]+" "+line]++ }

// see runs a See to its end.
func (s *script) see(slot int) (bool, api.Errno) {
	m := s.See(s.id, slot, s.at)
	for s.turn(); !m.Step(); s.turn() {
	}
	return m.Seen(), m.Code()
}

// wrongID is what holds of all three.
func (s *script) wrongID() bool { return s.id < 1 || s.id > s.Tx.Places() }

// reads is P9.3.
func (s *script) reads() api.Errno {
	if s.wrongID() {
		return api.ErrTx
	}
	for _, slot := range s.slots {
		s.turn()
		w, e := s.Cells.Load(slot, 1)
		if e != api.OK {
			return e
		}
		s.meet("reads " + kindOf(w))
		switch {
		case w == 1<<63+uint64(s.id):
			s.meet("reads own")
			continue
		case kindOf(w) == "bad":
			return api.ErrRange
		}
		seen, e := s.see(slot)
		if e != api.OK {
			s.meet(fmt.Sprint("reads see ", int(e)))
			return e
		}
		s.meet(fmt.Sprint("reads seen ", seen))
		if !seen {
			return api.ErrRead
		}
	}
	s.meet("reads all")
	return api.OK
}

// looks is P9.4.
func (s *script) looks() api.Errno {
	if s.wrongID() {
		return api.ErrTx
	}
	for _, r := range s.ranges {
		if e := s.through(r); e != api.OK {
			return e
		}
	}
	s.meet("looks all")
	return api.OK
}

func (s *script) through(r valid.Range) api.Errno {
	walk := s.Order.Walk(r.Low)
	for !walk.Ended() {
		s.turn()
		if !walk.Step() {
			continue
		}
		if walk.Code() != api.OK {
			s.meet(fmt.Sprint("looks walk ", int(walk.Code())))
			return walk.Code()
		}
		if walk.Slot() == 0 {
			break
		}
		entry, e := s.Cells.Payload(walk.Slot())
		if e != api.OK {
			return e
		}
		if entry.Name < r.Low || r.High != "" && entry.Name >= r.High {
			s.meet(fmt.Sprint("looks through, below ", entry.Name < r.Low))
			return api.OK
		}
		if e := s.look(walk.Slot()); e != api.OK {
			return e
		}
	}
	s.meet("looks end")
	return api.OK
}

// look is what Looks does at a version.
func (s *script) look(slot int) api.Errno {
	if slices.Contains(s.slots, slot) {
		s.meet("looks known")
		return api.OK
	}
	s.turn()
	w, e := s.Cells.Load(slot, 0)
	if e != api.OK {
		s.meet("looks load refused")
		return e
	}
	s.meet("looks " + kindOf(w))
	switch {
	case w == 1<<63+uint64(s.id):
		s.meet("looks own")
		return api.OK
	case kindOf(w) == "bad":
		return api.ErrRange
	}
	seen, e := s.see(slot)
	if e != api.OK {
		s.meet(fmt.Sprint("looks see ", int(e)))
		return e
	}
	s.meet(fmt.Sprint("looks seen ", seen))
	if seen {
		return api.ErrPhantom
	}
	return api.OK
}

// check is P9.5.
func (s *script) check(iso int) api.Errno {
	switch {
	case s.wrongID():
		return api.ErrTx
	case iso < 1 || iso > 4:
		return api.ErrArg
	case iso < 3:
		s.meet("nothing to do")
		return api.OK
	}
	if e := s.reads(); e != api.OK || iso == 3 {
		return e
	}
	return s.looks()
}

// twins are a machine and its script.
type twins struct {
	real machine
	plan *script
}

// pairOfWorlds are a base with the machines, and one with the scripts.
type pairOfWorlds struct {
	*world
	other  *version.Base
	source *rand.Rand
	crowd  bool
	met    map[string]int
	all    []twins
}

func (p *pairOfWorlds) someSlot() int {
	live := p.Cells.Live()
	if len(live) == 0 || p.source.Intn(40) == 0 {
		return p.source.Intn(14) - 1
	}
	return live[p.source.Intn(len(live))]
}

func (p *pairOfWorlds) someStamp() uint64 {
	if p.source.Intn(15) == 0 {
		all := stamps()
		return all[p.source.Intn(len(all))]
	}
	clock, _ := p.Tx.Horizon()
	return clock + 3 - uint64(p.source.Intn(7))
}

func (p *pairOfWorlds) someWord() uint64 {
	if p.crowd && p.source.Intn(2) == 0 {
		return word(1)
	}
	switch p.source.Intn(16) {
	case 0:
		return badWords()[p.source.Intn(len(badWords()))]
	case 1, 2, 3:
		return api.Infinity
	case 4, 5, 6, 7, 8, 9:
		return word(1 + p.source.Intn(p.Tx.Places()+1))
	}
	return p.someStamp()
}

func (p *pairOfWorlds) someKey() string {
	return []string{"a", "b", "q", "zz", "k", "aa"}[p.source.Intn(6)]
}

// meddle does one thing by hand to both worlds.
func (p *pairOfWorlds) meddle() {
	id, other, slot, w, n := 1+p.source.Intn(p.Tx.Places()), 1+p.source.Intn(p.Tx.Places()), p.someSlot(), p.someWord(), 1+p.source.Intn(5)
	begin, end := p.someWord(), p.someWord()
	cell, kind, key := p.source.Intn(2), p.source.Intn(24), p.someKey()
	for _, b := range []*version.Base{p.Base, p.other} {
		alone := func(m machine) { // slots that were freed while they were linked may have made a ring
			for n := 0; n < 200 && !m.Step(); n++ {
			}
		}
		switch kind {
		case 0, 1:
			b.Tx.Open(api.TxInfo{})
		case 2, 3, 4, 5:
			b.Tx.Move(id, n)
		case 6:
			b.Tx.Tick()
		case 7, 8:
			alone(b.Tx.Draw(id))
		case 9:
			alone(b.Tx.Depend(id, other))
		case 10:
			alone(b.Tx.Close(id))
		case 11:
			b.Tx.Move(id, api.TxTerminated)
			b.Tx.Drop(id)
		case 12:
			if n == 5 {
				b.Cells.Free(slot)
			}
		case 13:
			if n > 3 {
				alone(b.Order.Remove(slot))
			}
		case 14:
			m := b.Order.Remove(slot)
			for range n {
				m.Step() // it may stand still behind a mark
			}
		case 15, 16, 17:
			m := b.Load(1, key, "")
			alone(m)
			b.Cells.Store(m.Slot(), 0, begin)
			b.Cells.Store(m.Slot(), 1, end)
		case 18:
			if n > 4 {
				b.Cells.Store(slot, api.CellOrder, 0)
			}
		default:
			b.Cells.Store(slot, cell, w)
		}
	}
}

// set makes up a set; mostly of versions that are there.
func (p *pairOfWorlds) set() *valid.Sees {
	s := valid.NewSees()
	for range p.source.Intn(5) {
		s.Read(p.someSlot())
	}
	for range p.source.Intn(4) {
		low, high := "", ""
		if p.source.Intn(3) > 0 {
			low = p.someKey()
		}
		if p.source.Intn(3) > 0 {
			high = p.someKey()
		}
		s.Look(low, high)
	}
	return s
}

// begin begins a machine and its script.
func (p *pairOfWorlds) begin() twins {
	set, at, id := p.set(), p.someStamp(), 1+p.source.Intn(p.Tx.Places())
	if p.source.Intn(25) == 0 {
		id = strange()[p.source.Intn(len(strange()))]
	}
	s := &script{Base: p.other, id: id, slots: set.Slots(), ranges: set.Ranges(), at: at, met: p.met}
	var m machine
	switch p.source.Intn(4) {
	case 0:
		s.name = "Reads"
		m = valid.NewReads(p.Base, id, set, at)
		s.begin(s.reads)
	case 1:
		s.name = "Looks"
		m = valid.NewLooks(p.Base, id, set, at)
		s.begin(s.looks)
	default:
		iso := []int{0, 1, 2, 3, 3, 4, 4, 4, 4, 4, 4, 5}[p.source.Intn(12)]
		s.name = "Check"
		m = valid.NewCheck(p.Base, id, iso, set, at)
		s.begin(func() api.Errno { return s.check(iso) })
	}
	s.name += fmt.Sprint(" of ", id, " at ", at, " ", s.slots, s.ranges)
	for range p.source.Intn(3) {
		set.Read(p.someSlot())
		set.Look(p.someKey(), "")
	}
	return twins{m, s}
}

// compare holds what is to be seen of both worlds against each other.
func (p *pairOfWorlds) compare() {
	t := p.t
	if got, right := p.count(), (&world{p.other, t}).count(); got != right {
		t.Errorf("accesses, misses: %v, want %v", got, right)
	}
	for _, x := range p.all {
		if x.real.Code() != x.plan.code {
			t.Errorf("the code of %s: %d, want %d", x.plan.name, x.real.Code(), x.plan.code)
		}
	}
}

// people opens records in all states; in a crowd many depend on the first, which is about to commit.
func (p *pairOfWorlds) people(places int) {
	for id := range places {
		state := p.source.Intn(7)
		for _, b := range []*version.Base{p.Base, p.other} {
			b.Tx.Open(api.TxInfo{})
			switch {
			case !p.crowd:
				for _, s := range [][]int{{}, {2}, {2}, {2, 3}, {4}, {2, 3, 5}, {}}[state] {
					b.Tx.Move(id+1, s)
				}
			case id == 0:
				b.Tx.Move(1, api.TxPreparing)
				for m := b.Tx.Draw(1); !m.Step(); {
				}
			default:
				for m := b.Tx.Depend(id+1, 1); !m.Step(); {
				}
			}
		}
	}
}

// playTwins steps several machines by turns as chance has it, each beside its script, with meddling in between.
func playTwins(t *testing.T, seed int64, meddling int, met map[string]int) {
	source := rand.New(rand.NewSource(seed))
	config := api.Config{Slots: 1 + source.Intn(10), Buckets: 1, TxSlots: 1 + source.Intn(12), Clock: uint64(5 + source.Intn(4))}
	if source.Intn(8) == 0 {
		config.Clock = api.MaxTime - uint64(source.Intn(3))
	}
	crowd := source.Intn(6) == 0
	if crowd {
		config.TxSlots = api.MaxDeps + 3
	}
	p := &pairOfWorlds{source: source, crowd: crowd, met: met, world: newWorld(t, config.Slots, config.TxSlots, config.Clock)}
	p.other, _ = version.New(config)
	p.people(config.TxSlots)
	for i := range config.Slots - config.Slots/3 {
		begin, end, key := p.someWord(), p.someWord(), p.someKey()
		for _, b := range []*version.Base{p.Base, p.other} {
			for m := b.Load(0, key, ""); !m.Step(); {
			}
			b.Cells.Store(i+1, 0, begin)
			b.Cells.Store(i+1, 1, end)
		}
	}
	p.all = make([]twins, 1+source.Intn(6))
	for i := range p.all {
		p.all[i] = p.begin()
	}
	for range 200 {
		for source.Intn(100) < meddling {
			p.meddle()
		}
		i := source.Intn(len(p.all))
		if p.all[i].plan.over && source.Intn(4) > 0 {
			p.all[i] = p.begin()
		}
		what, accesses, words := p.all[i].plan.name, p.Accesses(), p.words()
		done := p.all[i].real.Step()
		if made := p.Accesses() - accesses; made > 1 || made == 0 && !done {
			t.Errorf("P9.6: %d accesses (the last: %v)", made, done)
		}
		if p.words() != words {
			t.Errorf("P9.6: a version's words are others")
		}
		if done != p.all[i].plan.Step() {
			t.Errorf("whether a step of %s is the last: %v", what, done)
		}
		if p.compare(); t.Failed() {
			t.Fatalf("seed %d: a step of %s", seed, what)
		}
	}
	for _, x := range p.all {
		x.plan.stop()
	}
	if dump(p.Base) != dump(p.other) {
		t.Fatalf("seed %d: the bases are not alike at the end", seed)
	}
}

// Every step's access and every answer is as the chapter's lines say, by the rules and against them.
func TestEveryStepIsAsWritten(t *testing.T) {
	met := map[string]int{}
	for seed := range int64(4000) {
		playTwins(t, seed, []int{2, 8, 20, 40}[seed%4], met)
	}
	var lines []string
	for _, name := range []string{"Reads", "Check"} {
		for _, line := range []string{
			"0", "10", "22", "60", "61", "70", "90", "reads infinity", "reads time", "reads transaction", "reads bad", "reads own", "reads seen true", "reads seen false", "reads all",
			"reads see 10", "reads see 22", "reads see 60", "reads see 61", "reads see 70",
		} {
			lines = append(lines, name+" "+line)
		}
	}
	for _, name := range []string{"Looks", "Check"} {
		for _, line := range []string{
			"0", "10", "22", "60", "61", "70", "91", "looks infinity", "looks time", "looks transaction", "looks bad", "looks own", "looks known", "looks seen true", "looks seen false", "looks all", "looks end",
			"looks see 10", "looks see 60", "looks see 61", "looks see 70", "looks walk 22", "looks through, below false",
		} {
			lines = append(lines, name+" "+line)
		}
	}
	lines = append(lines, "Check 2", "Check nothing to do", "Looks looks see 22", "Looks looks load refused")
	for _, line := range lines {
		if met[line] < 5 {
			t.Errorf("the runs have hardly met %q: %d times", line, met[line])
		}
	}
}
