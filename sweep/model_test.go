package sweep_test

import (
	"fmt"
	"iter"
	"math/rand"
	"slices"
	"strings"
	"testing"

	"strata/api"
	"strata/bits"
	"strata/sweep"
	"strata/version"
)

// pit is a limbo as the chapter has it.
type pit struct {
	queue                     [][2]uint64
	accesses, unlinked, freed int
}

// script is a machine as the chapter's lines have it, written down one behind the other. It works on the parts of a base of its own; turn stands ahead of each access, and it rests there till the next step.
type script struct {
	*version.Base // of which the parts alone are used
	*pit
	name  string
	pull  func() (int, bool)
	stop  func()
	yield func(int) bool
	made  bool // an access was made in this step
	over  bool
	code  api.Errno
	tells any
	met   map[string]int
}

// halt is how a script comes to its end from deep inside.
type halt struct{}

func newScript(b *version.Base, p *pit, met map[string]int, name string, tells any, lines func(*script) api.Errno) *script {
	s := &script{Base: b, pit: p, met: met, name: name, tells: tells}
	s.pull, s.stop = iter.Pull(func(yield func(int) bool) {
		defer func() {
			if x := recover(); x != nil && x != (halt{}) {
				panic(x)
			}
		}()
		s.yield = yield
		s.code = lines(s)
		s.meet(fmt.Sprint(int(s.code)))
	})
	return s
}

func (s *script) Step() bool {
	if !s.over {
		s.made = false
		_, more := s.pull()
		s.over = !more
	}
	return s.over
}

// turn lets a step end, if it has made its access.
func (s *script) turn() {
	if s.made && !s.yield(0) {
		panic(halt{})
	}
	s.made = true
}

// judge looks at what a call answered: one that was refused was no access.
func (s *script) judge(e api.Errno) api.Errno {
	if e == api.ErrSlot || e == api.ErrLevel {
		s.made = false
	}
	return e
}

// meet notes that a line was come to.
func (s *script) meet(line string) { s.met[strings.Fields(s.name)[0]+" "+line]++ }

// play runs a part to its end.
func (s *script) play(m machine) api.Errno {
	for s.turn(); !m.Step(); s.turn() {
	}
	return s.judge(m.Code())
}

func (s *script) load(slot, cell int) (uint64, api.Errno) {
	s.turn()
	w, e := s.Cells.Load(slot, cell)
	return w, s.judge(e)
}

// split tells what a word is.
func split(w uint64) (string, uint64) {
	switch {
	case w == 1<<63-1:
		return "infinity", 0
	case w>>62 == 0:
		return "time", w
	case w>>62 == 2:
		return "transaction", w - 1<<63
	}
	return "bad", 0
}

// collect is P8.5.
func (s *script) collect(slot int, floor uint64) api.Errno {
	w, e := s.load(slot, 0)
	if e != api.OK {
		return e
	}
	kind, _ := split(w)
	s.meet("C1 " + kind)
	if kind == "transaction" || kind == "bad" {
		return api.ErrNeeded
	}
	if kind == "time" {
		w, e = s.load(slot, 1)
		if e != api.OK {
			s.meet("C2 refused")
			return e
		}
		kind, stamp := split(w)
		s.meet("C2 " + kind)
		if kind != "time" {
			return api.ErrNeeded
		}
		if stamp > floor {
			s.meet("C2 above")
			return api.ErrNeeded
		}
		s.meet(fmt.Sprint("C2 just the floor ", stamp == floor))
	}
	s.turn()
	swapped, e := s.Cells.CAS(slot, 2, 0, 1)
	if s.judge(e) != api.OK {
		s.meet("C3 refused")
		return e
	}
	if !swapped {
		return api.ErrClaimed
	}
	entry, e := s.Cells.Payload(slot)
	if e != api.OK {
		return e
	}
	if e = s.play(s.Hash.Remove(int(bits.Hash(entry.Name)%uint64(s.Hash.Buckets())), slot)); e != api.OK {
		s.meet(fmt.Sprint("C4 ", int(e)))
		return e
	}
	if e = s.play(s.Order.Remove(slot)); e != api.OK {
		s.meet(fmt.Sprint("C5 ", int(e)))
		return e
	}
	s.turn()
	stamp, _ := s.Tx.Clock()
	s.turn()
	s.accesses++
	s.unlinked++
	s.queue = append(s.queue, [2]uint64{uint64(slot), stamp})
	s.meet("C7")
	return api.OK
}

// reclaim is P8.6.
func (s *script) reclaim(floor uint64, most int, tell func(freed int)) api.Errno {
	for freed := 0; freed < most; tell(freed) {
		s.turn()
		s.accesses++
		if len(s.queue) == 0 {
			s.meet("G1 none")
			return api.OK
		}
		front := s.queue[0]
		if front[1] >= floor {
			s.meet(fmt.Sprint("G1 just the floor ", front[1] == floor))
			return api.OK
		}
		s.queue = slices.Clone(s.queue[1:])
		s.turn()
		if e := s.judge(s.Cells.Free(int(front[0]))); e != api.OK {
			return e
		}
		freed++
		s.freed++
	}
	s.meet("G2 most")
	return api.OK
}

// pass is P8.7.
func (s *script) pass(bucket int) api.Errno {
	if bucket < 0 || bucket >= s.Hash.Buckets() {
		return api.ErrBucket
	}
	find := s.Tx.Floor()
	s.play(find)
	floor, unlinked := find.Floor(), uint64(0)
	s.tells = [2]uint64{0, floor}
	for more := true; more; {
		s.turn()
		more, _ = s.Tx.Free(floor)
		s.meet(fmt.Sprint("a record ", more))
	}
	if e := s.reclaim(floor, 4096, func(int) {}); e != api.OK {
		s.meet("reclaim refused")
		return e
	}
	s.turn()
	id, e := s.Tx.Open(api.TxInfo{})
	if e != api.OK {
		return e
	}
	e = s.play(s.Tx.Start(id))
	if e != api.OK && e != api.ErrClock {
		s.meet("start refused")
		return e
	}
	if e == api.OK {
		e = s.along(s.Hash.Walk(bucket), floor, func() {
			unlinked++
			s.tells = [2]uint64{unlinked, floor}
		})
	}
	quit := s.play(s.Tx.Quit(id))
	s.meet(fmt.Sprint("fault ", e != api.OK, " quit ", quit == api.OK))
	if e == api.OK {
		e = quit
	}
	return e
}

// along is the walk of a Pass.
func (s *script) along(walk interface {
	machine
	Slot() int
	Ended() bool
}, floor uint64, count func()) api.Errno {
	for !walk.Ended() {
		s.turn()
		if !walk.Step() {
			s.meet("not arrived")
			continue
		}
		s.judge(walk.Code())
		if walk.Slot() == 0 {
			continue
		}
		if walk.Code() != api.OK {
			s.meet("stands at one, with an error")
		}
		switch e := s.collect(walk.Slot(), floor); e {
		case api.OK:
			count()
		case api.ErrNeeded, api.ErrClaimed:
			s.meet(fmt.Sprint("goes on behind ", int(e)))
		default:
			s.meet("collect refused")
			return e
		}
	}
	if walk.Code() != api.OK {
		s.meet(fmt.Sprint("walk ", int(walk.Code())))
	}
	return walk.Code()
}

// twins are a machine and its script.
type twins struct {
	real machine
	plan *script
}

// pairOfWorlds are a base with two sweepers and their machines, and one with the scripts.
type pairOfWorlds struct {
	*world
	others [2]*sweep.Sweeper
	pits   [2]*pit
	other  *version.Base
	source *rand.Rand
	met    map[string]int
	all    []twins
}

func (p *pairOfWorlds) someSlot() int {
	live := p.Cells.Live()
	if len(live) == 0 || p.source.Intn(25) == 0 {
		return p.source.Intn(14) - 1
	}
	if p.source.Intn(3) == 0 {
		return live[0] // where much is going on
	}
	return live[p.source.Intn(len(live))]
}

func (p *pairOfWorlds) someStamp() uint64 {
	if p.source.Intn(15) == 0 {
		all := stamps()
		return all[p.source.Intn(len(all))]
	}
	clock, _ := p.Tx.Horizon()
	return clock + 3 - uint64(p.source.Intn(7))
}

func (p *pairOfWorlds) someWord() uint64 {
	switch p.source.Intn(12) {
	case 0:
		return badWords()[p.source.Intn(len(badWords()))]
	case 1, 2, 3:
		return api.Infinity
	case 4:
		return word(1 + p.source.Intn(p.Tx.Places()+1))
	}
	return p.someStamp()
}

// meddle does one thing by hand to both worlds.
func (p *pairOfWorlds) meddle() {
	id, slot, w, n, stamp := 1+p.source.Intn(p.Tx.Places()), p.someSlot(), p.someWord(), 1+p.source.Intn(5), p.someStamp()
	begin, end := p.someWord(), p.someWord()
	cell, kind := p.source.Intn(2), p.source.Intn(24)
	key := []string{"a", "b", "q", "zz"}[p.source.Intn(4)]
	for _, b := range []*version.Base{p.Base, p.other} {
		alone := func(m machine) { // slots that were freed while they were linked may have made a ring
			for n := 0; n < 200 && !m.Step(); n++ {
			}
		}
		switch kind {
		case 0:
			b.Tx.Open(api.TxInfo{})
		case 1, 2:
			b.Tx.Move(id, n)
		case 3, 4:
			b.Tx.Tick()
		case 5, 6:
			b.Tx.Move(id, api.TxTerminated)
			b.Tx.Announce(id, 0)
			b.Tx.Retire(id, stamp)
		case 7:
			b.Tx.Move(id, api.TxAborted)
			b.Tx.Move(id, api.TxTerminated)
			b.Tx.Drop(id)
		case 8:
			if n == 5 {
				b.Cells.Free(slot)
			}
		case 9:
			if n > 3 {
				b.Cells.Store(slot, api.CellHash, []uint64{0, 2 * (api.MaxSlots + 2)}[n%2])
			}
		case 10:
			if n > 4 {
				alone(b.Hash.Remove(0, slot))
			}
		case 11:
			if n > 3 {
				alone(b.Order.Remove(slot))
			}
		case 12:
			b.Cells.CAS(slot, api.CellClaim, uint64(n)/4, uint64(n)/5)
		case 13:
			m := b.Hash.Remove(b.Bucket(key), slot)
			for range n {
				m.Step() // it may stand still behind its mark
			}
		case 14:
			b.Tx.Announce(id, stamp)
		case 15, 16, 17:
			m := b.Load(1, key, "")
			alone(m)
			b.Cells.Store(m.Slot(), 0, begin)
			b.Cells.Store(m.Slot(), 1, end)
		default:
			b.Cells.Store(slot, cell, w)
		}
	}
}

// begin begins a machine and its script.
func (p *pairOfWorlds) begin() twins {
	which := p.source.Intn(2)
	s, pit := p.others[which], p.pits[which]
	lay := func(name string, tells any, lines func(*script) api.Errno) *script {
		return newScript(p.other, pit, p.met, name, tells, lines)
	}
	floor := p.someStamp()
	switch p.source.Intn(4) {
	case 0:
		slot := p.someSlot()
		return twins{s.Collect(slot, floor), lay(fmt.Sprint("Collect ", slot, floor), nil, func(x *script) api.Errno { return x.collect(slot, floor) })}
	case 1:
		most := []int{-1, 0, 1, 2, 3, 4096}[p.source.Intn(6)]
		return twins{s.Reclaim(floor, most), lay(fmt.Sprint("Reclaim ", floor, most), 0, func(x *script) api.Errno {
			return x.reclaim(floor, most, func(freed int) { x.tells = freed })
		})}
	}
	bucket := p.source.Intn(p.Hash.Buckets())
	if p.source.Intn(15) == 0 {
		bucket = []int{-1, p.Hash.Buckets(), 1 << 40}[p.source.Intn(3)]
	}
	return twins{s.Pass(bucket), lay(fmt.Sprint("Pass ", bucket), [2]uint64{}, func(x *script) api.Errno { return x.pass(bucket) })}
}

// compare holds what is to be seen of both worlds against each other.
func (p *pairOfWorlds) compare() {
	t := p.t
	if p.Base.Accesses() != p.other.Accesses() || p.Misses() != p.other.Misses() {
		t.Errorf("accesses, misses: %d, %d, want %d, %d", p.Base.Accesses(), p.Misses(), p.other.Accesses(), p.other.Misses())
	}
	for i, s := range p.others {
		x := p.pits[i]
		got, right := [4]int{s.Accesses(), s.Limbo(), s.Unlinked(), s.Freed()}, [4]int{x.accesses, len(x.queue), x.unlinked, x.freed}
		if got != right {
			t.Errorf("P8.2: Accesses, Limbo, Unlinked, Freed: %v, want %v", got, right)
		}
	}
	live := p.Cells.Live()
	if !slices.Equal(live, p.other.Cells.Live()) {
		t.Errorf("the slots in use: %v, want %v", live, p.other.Cells.Live())
	}
	for _, slot := range live {
		got, _ := p.Cells.Peek(slot)
		right, _ := p.other.Cells.Peek(slot)
		if !slices.Equal(got, right) {
			t.Errorf("the cells of %d: %v, want %v", slot, got, right)
		}
	}
	clock, floor := p.Tx.Horizon()
	now, low := p.other.Tx.Horizon()
	if clock != now || floor != low || p.Tx.Waiting() != p.other.Tx.Waiting() || !slices.Equal(p.Tx.Live(), p.other.Tx.Live()) {
		t.Errorf("the table: %d, %d, %v, want %d, %d, %v", clock, floor, p.Tx.Live(), now, low, p.other.Tx.Live())
	}
	for _, x := range p.all {
		if code := x.plan.code; x.real.Code() != code || told(x.real) != x.plan.tells {
			t.Errorf("what %s tells: %d, %v, want %d, %v", x.plan.name, x.real.Code(), told(x.real), code, x.plan.tells)
		}
	}
}

// playTwins steps several machines by turns as chance has it, each beside its script, with meddling in between.
func playTwins(t *testing.T, seed int64, meddling int, met map[string]int) {
	source := rand.New(rand.NewSource(seed))
	config := api.Config{Slots: 1 + source.Intn(10), Buckets: 1 + source.Intn(2), TxSlots: 1 + source.Intn(5), Clock: uint64(5 + source.Intn(4))}
	p := &pairOfWorlds{source: source, met: met, pits: [2]*pit{{}, {}}}
	if source.Intn(8) == 0 {
		config.Clock = api.MaxTime - uint64(source.Intn(6))
	}
	p.world = newWorld(t, config.Slots, config.Buckets, config.TxSlots, config.Clock)
	p.others = [2]*sweep.Sweeper{p.Sweeper, p.another().Sweeper}
	p.other, _ = version.New(config)
	for i := range config.Slots - config.Slots/3 {
		begin, end := p.someWord(), p.someWord()
		for _, b := range []*version.Base{p.Base, p.other} {
			for m := b.Load(0, []string{"a", "q", "zz", "b"}[i%4], ""); !m.Step(); {
			}
			b.Cells.Store(i+1, 0, begin)
			b.Cells.Store(i+1, 1, end)
		}
	}
	p.all = make([]twins, 1+source.Intn(6))
	for i := range p.all {
		p.all[i] = p.begin()
	}
	for range 300 {
		for source.Intn(100) < meddling {
			p.meddle()
		}
		i := source.Intn(len(p.all))
		if p.all[i].plan.over && source.Intn(4) > 0 {
			p.all[i] = p.begin()
		}
		what, accesses := p.all[i].plan.name, p.everything()
		done := p.all[i].real.Step()
		if made := p.everything() - accesses; made > 1 || made == 0 && !done {
			t.Errorf("P8.4: %d accesses (the last: %v)", made, done)
		}
		if done != p.all[i].plan.Step() {
			t.Errorf("whether a step of %s is the last: %v", what, done)
		}
		p.compare()
		if t.Failed() {
			t.Fatalf("seed %d: a step of %s", seed, what)
		}
	}
	for _, x := range p.all {
		x.plan.stop()
	}
	if dump(p.Base) != dump(p.other) {
		t.Fatalf("seed %d: the bases are not alike at the end", seed)
	}
}

// everything tells all accesses, of both limbos too.
func (p *pairOfWorlds) everything() int {
	return p.Base.Accesses() + p.others[0].Accesses() + p.others[1].Accesses()
}

// Every step's access and every answer is as the chapter's lines say, by the rules and against them.
func TestEveryStepIsAsWritten(t *testing.T) {
	met := map[string]int{}
	for seed := range int64(4000) {
		playTwins(t, seed, []int{2, 8, 20, 40}[seed%4], met)
	}
	var lines []string
	for _, name := range []string{"Collect", "Pass"} {
		for _, line := range []string{
			"0", "22", "42", "52", "C1 infinity", "C1 time", "C1 transaction", "C1 bad", "C2 infinity", "C2 time", "C2 transaction", "C2 bad", "C2 above", "C2 just the floor true", "C2 just the floor false",
			"C2 refused", "C3 refused", "C4 22", "C4 42", "C5 22", "C5 52", "C7",
		} {
			if name == "Collect" || line != "C4 42" {
				lines = append(lines, name+" "+line)
			}
		}
	}
	for _, name := range []string{"Reclaim", "Pass"} {
		for _, line := range []string{"0", "22", "G1 none", "G1 just the floor true", "G1 just the floor false"} {
			lines = append(lines, name+" "+line)
		}
	}
	lines = append(lines, "Reclaim G2 most", "Collect 80", "Collect 81",
		"Pass 40", "Pass 43", "Pass 60", "Pass 61", "Pass 62", "Pass 63", "Pass a record true", "Pass a record false", "Pass reclaim refused", "Pass start refused", "Pass collect refused", "Pass not arrived",
		"Pass stands at one, with an error", "Pass goes on behind 80", "Pass goes on behind 81", "Pass walk 22", "Pass walk 42", "Pass walk 43",
		"Pass fault false quit true", "Pass fault true quit true", "Pass fault false quit false", "Pass fault true quit false",
	)
	for _, line := range lines {
		if met[line] < 5 {
			t.Errorf("the runs have hardly met %q: %d times", line, met[line])
		}
	}
}
