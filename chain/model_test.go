package chain_test

import (
	"fmt"
	"math/rand"
	"slices"
	"testing"

	"strata/api"
	"strata/chain"
)

// memory is the chapter's shared words as plain ones: the link cells of the slots in use, and the heads.
type memory struct {
	links          map[int]uint64
	heads          []uint64
	arena, heading int // accesses
	misses         int
	slots          int
	free           []int
	kinds          map[string]int // what the runs have met, so that a test can tell that it was worth something
}

func newMemory(slots, used, buckets int) *memory {
	m := &memory{links: map[int]uint64{}, slots: slots, arena: used, kinds: map[string]int{}}
	for s := 1; s <= slots; s++ {
		if s <= used {
			m.links[s] = 0
		} else {
			m.free = append(m.free, s)
		}
	}
	for b := range buckets {
		m.heads = append(m.heads, uint64(2*(4097+b)))
	}
	return m
}

func (m *memory) load(slot int) (uint64, api.Errno) {
	w, ok := m.links[slot]
	if !ok {
		m.misses++
		return 0, api.ErrSlot
	}
	m.arena++
	return w, api.OK
}

func (m *memory) swap(slot int, old, fresh uint64) (bool, api.Errno) {
	w, e := m.load(slot)
	if e == api.OK && w == old {
		m.links[slot] = fresh
	}
	return e == api.OK && w == old, e
}

func (m *memory) loadHead(b int) uint64 {
	m.heading++
	return m.heads[b]
}

func (m *memory) swapHead(b int, old, fresh uint64) bool {
	m.heading++
	if m.heads[b] != old {
		return false
	}
	m.heads[b] = fresh
	return true
}

func (m *memory) look(b int) (list []int, held int) {
	at := m.heads[b] / 2
	for held < 4096 {
		w, ok := m.links[int(at)]
		if !ok {
			break
		}
		held++
		if w%2 == 0 {
			list = append(list, int(at))
		}
		at = w / 2
	}
	return list, held
}

// actor is a machine of the chapter, its lines by their numbers.
type actor struct {
	m              *memory
	kind           string
	bucket, slot   int
	line           int
	h, w           uint64
	ahead, present uint64 // ahead 0: the head
	pending        uint64
	at             int
	over, marked   bool
	tries, helped  int
	code           api.Errno
}

func (a *actor) told() string {
	return fmt.Sprint(a.code, a.tries, a.at, a.over && (a.kind == "walk" || a.kind == "behind"), a.marked, a.helped)
}

func (a *actor) done(e api.Errno) bool {
	a.m.kinds[fmt.Sprint(a.kind, " ", e)]++
	a.over, a.code = true, e
	return true
}

func (a *actor) Step() bool {
	if a.over {
		a.at = 0
		return true
	}
	if a.line == 0 && a.kind != "behind" && (a.bucket < 0 || a.bucket >= len(a.m.heads)) {
		return a.done(api.ErrBucket)
	}
	a.line = max(a.line, 1)
	switch a.kind {
	case "insert":
		return a.insert()
	case "remove":
		return a.remove()
	}
	return a.walk()
}

func (a *actor) insert() bool {
	switch a.line {
	case 1:
		w, e := a.m.load(a.slot)
		if e != api.OK {
			return a.done(e)
		}
		if w != 0 {
			return a.done(api.ErrLinked)
		}
	case 2:
		a.h = a.m.loadHead(a.bucket)
	case 3:
		if _, e := a.m.load(a.slot); e != api.OK {
			return a.done(e)
		}
		a.m.links[a.slot] = a.h
	case 4:
		if a.m.swapHead(a.bucket, a.h, uint64(2*a.slot)) {
			return a.done(api.OK)
		}
		a.tries++
		a.m.kinds["insert again"]++
		a.line = 1
	}
	a.line++
	return false
}

func (a *actor) walk() bool {
	w, e, first := uint64(0), api.OK, a.line == 1
	switch {
	case !first:
		w, e = a.m.load(int(a.pending))
	case a.kind == "walk":
		w = a.m.loadHead(a.bucket)
	default:
		w, e = a.m.load(a.slot)
	}
	a.line = 2
	a.at = 0
	switch {
	case e != api.OK:
		return a.done(e)
	case w/2 == 0:
		return a.done(api.ErrUnlinked)
	}
	if !first && w%2 == 0 {
		a.at = int(a.pending)
	}
	if !first && w%2 == 1 {
		a.m.kinds["walk past"]++
	}
	a.pending = w / 2
	switch {
	case w/2 <= 4096:
		return a.at != 0
	case a.kind == "walk" && w/2 != uint64(4097+a.bucket):
		return a.done(api.ErrStray)
	}
	return a.done(api.OK)
}

func (a *actor) remove() bool {
	switch a.line {
	case 1:
		w, e := a.m.load(a.slot)
		switch {
		case e != api.OK:
			return a.done(e)
		case w == 0:
			return a.done(api.ErrUnlinked)
		}
		a.w, a.line = w, 2+int(w%2)
	case 2:
		ok, e := a.m.swap(a.slot, a.w, a.w+1)
		if e != api.OK {
			return a.done(e)
		}
		a.line = 1
		if ok {
			a.marked, a.line = true, 3
		} else {
			a.m.kinds["mark again"]++
		}
	case 3:
		a.ahead, a.present, a.line = 0, a.m.loadHead(a.bucket)/2, 4
		if a.present > 4096 {
			return a.done(api.OK)
		}
	case 4:
		return a.removeLoads()
	case 5:
		return a.removeSwaps()
	}
	return false
}

func (a *actor) removeLoads() bool {
	w, e := a.m.load(int(a.present))
	switch {
	case e != api.OK:
		return a.done(e)
	case w/2 == 0:
		return a.done(api.ErrUnlinked)
	}
	if a.w = w; w%2 == 1 {
		a.line = 5
		return false
	}
	a.ahead, a.present = a.present, w/2
	return w/2 > 4096 && a.done(api.OK)
}

func (a *actor) removeSwaps() bool {
	ok, e := false, api.OK
	if a.ahead == 0 {
		ok = a.m.swapHead(a.bucket, 2*a.present, a.w-1)
	} else {
		ok, e = a.m.swap(int(a.ahead), 2*a.present, a.w-1)
	}
	switch {
	case e != api.OK:
		return a.done(e)
	case !ok:
		a.m.kinds["remove again"]++
		a.line = 3
		return false
	case a.present == uint64(a.slot):
		return a.done(api.OK)
	}
	a.helped++
	a.m.kinds["help"]++
	a.present, a.line = a.w/2, 4
	return a.present > 4096 && a.done(api.OK)
}

// twins are a machine and the model of it.
type twins struct {
	real machine
	plan *actor
}

func told(m machine) string {
	switch r := m.(type) {
	case *chain.Insert[string]:
		return fmt.Sprint(r.Code(), r.Tries(), 0, false, false, 0)
	case *chain.Walk[string]:
		return fmt.Sprint(r.Code(), 0, r.Slot(), r.Ended(), false, 0)
	case *chain.Remove[string]:
		return fmt.Sprint(r.Code(), 0, 0, false, r.Marked(), r.Helped())
	}
	return ""
}

// beginTwins begins one of the machines, some with wrong arguments.
func beginTwins(w *world, m *memory, source *rand.Rand) twins {
	bucket, slot := source.Intn(len(m.heads)), 1+source.Intn(m.slots)
	if source.Intn(20) == 0 {
		bucket = source.Intn(5) - 2
	}
	if source.Intn(20) == 0 {
		slot = source.Intn(m.slots+4) - 2
	}
	plan := &actor{m: m, bucket: bucket, slot: slot}
	switch source.Intn(5) {
	case 0, 1:
		plan.kind = "insert"
		return twins{w.index.Insert(bucket, slot), plan}
	case 2:
		plan.kind = "walk"
		return twins{w.index.Walk(bucket), plan}
	case 3:
		plan.kind = "behind"
		return twins{w.index.Behind(slot), plan}
	}
	plan.kind = "remove"
	return twins{w.index.Remove(bucket, slot), plan}
}

// meddle does what the rules forbid: it frees a slot, takes one into use, writes a link.
func meddle(w *world, m *memory, source *rand.Rand) {
	slot := 1 + source.Intn(m.slots)
	_, used := m.links[slot]
	switch kind := source.Intn(3); {
	case kind == 0 && used:
		w.arena.Free(slot)
		delete(m.links, slot)
		m.free = append(m.free, slot)
		m.arena++
	case kind == 1 && len(m.free) > 0:
		w.alloc()
		m.links[m.free[0]] = 0
		m.free = m.free[1:]
		m.arena++
	case kind == 2 && used:
		word := uint64(source.Intn(2*m.slots + 4))
		if source.Intn(3) == 0 {
			word = 2*4096 + uint64(source.Intn(12))
		}
		w.arena.Store(slot, cell, word)
		m.links[slot] = word
		m.arena++
	}
}

// compareLooks holds List and Held against the model's; seldom of a ring, which takes long to look at.
func compareLooks(t *testing.T, w *world, m *memory, source *rand.Rand) {
	t.Helper()
	for b := range m.heads {
		list, held := m.look(b)
		if held == 4096 && source.Intn(100) > 0 {
			continue
		}
		l, _ := w.index.List(b)
		h, _ := w.index.Held(b)
		if !slices.Equal(l, list) || h != held {
			t.Errorf("bucket %d: %v, %d held, want %v, %d held", b, l, h, list, held)
		}
	}
}

func compareWords(t *testing.T, w *world, m *memory) {
	t.Helper()
	for _, s := range w.arena.Live() {
		if w.link(s) != m.links[s] {
			t.Errorf("the link of %d: %d, want %d", s, w.link(s), m.links[s])
		}
	}
	if w.arena.Accesses() != m.arena || w.index.Accesses() != m.heading || w.arena.Misses() != m.misses {
		t.Errorf("accesses, to heads, misses: %d, %d, %d, want %d, %d, %d", w.arena.Accesses(), w.index.Accesses(), w.arena.Misses(), m.arena, m.heading, m.misses)
	}
}

// playTwins steps several machines by turns as chance has it, each beside its model.
func playTwins(t *testing.T, seed int64, meddling bool) map[string]int {
	source := rand.New(rand.NewSource(seed))
	slots, buckets := 1+source.Intn(6), 1+source.Intn(3)
	used := source.Intn(slots + 1)
	if !meddling {
		used = slots
	}
	w, m := newWorld(t, slots, used, buckets), newMemory(slots, used, buckets)
	at := make([]twins, 1+source.Intn(4))
	for i := range at {
		at[i] = beginTwins(w, m, source)
	}
	for range 150 {
		i := source.Intn(len(at))
		if at[i].plan.over && source.Intn(3) > 0 {
			at[i] = beginTwins(w, m, source)
		}
		done := at[i].real.Step()
		want(t, "whether a step arrives", done, at[i].plan.Step())
		if meddling && source.Intn(12) == 0 {
			meddle(w, m, source)
		}
		for _, a := range at {
			want(t, "what "+a.plan.kind+" tells", told(a.real), a.plan.told())
		}
		compareWords(t, w, m)
		compareLooks(t, w, m, source)
		if t.Failed() {
			t.Fatalf("seed %d: a step of %s(%d, %d)", seed, at[i].plan.kind, at[i].plan.bucket, at[i].plan.slot)
		}
	}
	return m.kinds
}

// Every step's access and every answer is as the chapter's lines say, by the rules and against them.
func TestEveryStepIsAsWritten(t *testing.T) {
	met := map[string]int{}
	for seed := range int64(600) {
		for kind, n := range playTwins(t, seed, seed%2 == 0) {
			met[kind] += n
		}
	}
	for _, kind := range []string{"insert 0", "insert 22", "insert 40", "insert 41", "insert again", "walk 0", "walk 22", "walk 40", "walk 42", "walk 43", "walk past", "behind 0", "behind 22", "behind 42", "remove 0", "remove 22", "remove 40", "remove 42", "mark again", "remove again", "help"} {
		if met[kind] < 20 {
			t.Errorf("the runs have hardly met %q: %d times", kind, met[kind])
		}
	}
}

// A word that is no link ends a walk, a removal and a look.
func TestWordsThatAreNoLinks(t *testing.T) {
	for _, word := range []uint64{1 << 32, 1<<32 + 1, 1<<63 - 1, 1 << 63, 1<<64 - 1} {
		w := newWorld(t, 3, 3, 1)
		w.put(0, 1, 2, 3)
		w.arena.Store(2, cell, word)
		for _, m := range []machine{w.index.Insert(0, 2), w.index.Remove(0, 1), w.index.Remove(0, 2), w.index.Remove(0, 3)} {
			w.run(m)
		}
		w.arena.Store(2, cell, word)
		w.stops(w.index.Walk(0))
		w.stops(w.index.Behind(2))
		list, _ := w.index.List(0)
		held, _ := w.index.Held(0)
		if slices.Max(append(list, held)) > 3 {
			t.Errorf("a word that is no link leads on: %v, %d", list, held)
		}
	}
}
