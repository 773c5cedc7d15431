package ladder_test

import (
	"fmt"
	"math/rand"
	"slices"
	"testing"

	"strata/api"
)

// memory is the chapter's shared words as plain ones: the links of the slots in use, and the heads.
type memory struct {
	levels         int
	slots          int
	links          map[int]*[4]uint64
	entries        map[int]entry
	heads          [4]uint64
	arena, heading int // accesses
	misses         int
	free           []int
	met            map[string]int // the lines that the runs have come by, and how they went, so that a test can tell that it was worth something
}

func newMemory(slots, levels int) *memory {
	m := &memory{levels: levels, slots: slots, links: map[int]*[4]uint64{}, entries: map[int]entry{}, met: map[string]int{}}
	for s := range slots {
		m.free = append(m.free, s+1)
	}
	for v := range 4 {
		m.heads[v] = endWord
	}
	return m
}

func (m *memory) alloc(x entry) int {
	slot := m.free[0]
	m.free = m.free[1:]
	m.links[slot], m.entries[slot] = &[4]uint64{}, x
	m.arena++
	return slot
}

// word tells where a link stands (0 is the head), and counts the access; nil: the slot is not in use.
func (m *memory) word(place, v int) *uint64 {
	if place == 0 {
		m.heading++
		return &m.heads[v]
	}
	l := m.links[place]
	if l == nil {
		m.misses++
		return nil
	}
	m.arena++
	return &l[v]
}

// look tells what List and Held tell.
func (m *memory) look(v int) (list []int, held int) {
	for at := m.heads[v] / 2; held < m.slots; held++ {
		l := m.links[int(at)]
		if l == nil {
			break
		}
		if l[v]%2 == 0 {
			list = append(list, int(at))
		}
		at = l[v] / 2
	}
	return list, held
}

// actor is a machine of the chapter: line is the one whose access is the next.
type actor struct {
	m              *memory
	kind           string
	slot           int
	low            string
	line           string
	key            string
	h, v, p, c     int
	w              uint64
	before, behind [4]int
	behindSearch   string // the line that comes behind the search
	at             int    // of a walk: where it stands
	over           bool
	code           api.Errno
	level          int // of Insert and Remove: their v, while the search has its own
}

func (a *actor) told() string { return fmt.Sprint(a.code, a.at, a.kind == "walk" && a.over) }

func (a *actor) done(e api.Errno) bool {
	a.m.met[fmt.Sprint(a.kind, " ", e)]++
	a.over, a.code = true, e
	return true
}

// to says what the next line is.
func (a *actor) to(line string) bool {
	a.m.met[a.line+" to "+line]++
	a.line = line
	return false
}

func (a *actor) Step() bool {
	a.at = 0
	if a.over {
		return true
	}
	if a.line == "" {
		if e := a.first(); e != api.OK {
			return a.done(e)
		}
	}
	place, v := a.touches()
	word := a.m.word(place, v)
	if word == nil {
		return a.done(api.ErrSlot)
	}
	switch a.line[0] {
	case 'F':
		return a.search(word)
	case 'I':
		return a.insert(word)
	case 'R':
		return a.remove(word)
	}
	return a.walk(word)
}

func (a *actor) first() api.Errno {
	a.line, a.v = "W1", a.m.levels-1
	if a.kind == "walk" {
		return api.OK
	}
	x, ok := a.m.entries[a.slot]
	if !ok {
		a.m.misses++
		return api.ErrSlot
	}
	if x.Tall < 1 || x.Tall > a.m.levels {
		return api.ErrLevel
	}
	a.key, a.h = x.Name, x.Tall
	a.line = map[string]string{"insert": "I1", "remove": "R1"}[a.kind]
	return api.OK
}

// touches tells which link the line touches.
func (a *actor) touches() (place, v int) {
	switch a.line {
	case "F1", "F3", "W1":
		return a.p, a.v
	case "F2", "W2":
		return a.c, a.v
	case "W3":
		return a.c, 0
	case "I1", "I2", "R1":
		return a.slot, 0
	case "I3":
		return a.before[0], 0
	case "I6":
		return a.before[a.level], a.level
	}
	return a.slot, a.level // I4, I5, R2, R3
}

func (a *actor) swap(word *uint64, old, fresh uint64) bool {
	if *word != old {
		a.m.met[a.line+" fails"]++
		return false
	}
	*word = fresh
	return true
}

func link(number int) uint64 { return uint64(2 * number) }

// number tells the slot of a link, and that of nothing is the end's.
func number(w uint64) int {
	if w/2 == 0 {
		return endNumber
	}
	return int(w / 2)
}

func (a *actor) beginSearch(behind string) bool {
	a.behindSearch = behind
	return a.searchAgain()
}

func (a *actor) searchAgain() bool {
	a.v, a.p = a.m.levels-1, 0
	return a.to("F1")
}

// ahead tells whether c comes ahead of (key, slot); the slot was loaded just now.
func (a *actor) ahead() bool {
	key := a.m.entries[a.c].Name
	return key < a.key || key == a.key && a.c < a.slot
}

func (a *actor) search(word *uint64) bool {
	switch a.line {
	case "F1":
		if *word%2 == 1 {
			a.m.met["F1 begins again"]++
			return a.searchAgain()
		}
		a.c = number(*word)
	case "F2":
		if a.w = *word; a.w%2 == 1 {
			return a.to("F3")
		}
		if !a.ahead() {
			return a.goDown(a.c)
		}
		a.p, a.c = a.c, number(a.w)
	case "F3":
		if !a.swap(word, link(a.c), link(number(a.w))) {
			return a.searchAgain()
		}
		a.c = number(a.w)
	}
	if a.c == endNumber {
		return a.goDown(endNumber)
	}
	return a.to("F2")
}

func (a *actor) goDown(behind int) bool {
	a.before[a.v], a.behind[a.v] = a.p, behind
	if a.v > 0 {
		a.v--
		return a.to("F1")
	}
	switch {
	case a.behindSearch == "done":
		return a.done(api.OK)
	case a.behindSearch == "I4" && a.behind[0] != a.slot:
		a.m.met["taken out"]++
		return a.done(api.OK)
	}
	return a.to(a.behindSearch)
}

func (a *actor) insert(word *uint64) bool {
	v := a.level
	switch a.line {
	case "I1":
		if *word != 0 {
			return a.done(api.ErrTwice)
		}
		return a.beginSearch("I2")
	case "I2":
		*word = link(a.behind[0])
		return a.to("I3")
	case "I3":
		if !a.swap(word, link(a.behind[0]), link(a.slot)) {
			return a.beginSearch("I2")
		}
	case "I4":
		a.w = *word
		switch {
		case a.w%2 == 1:
			a.m.met["I4 marked"]++
			return a.done(api.OK)
		case a.w == link(a.behind[v]):
			return a.to("I6")
		}
		return a.to("I5")
	case "I5":
		if !a.swap(word, a.w, link(a.behind[v])) {
			return a.to("I4")
		}
		return a.to("I6")
	case "I6":
		if !a.swap(word, link(a.behind[v]), link(a.slot)) {
			return a.beginSearch("I4")
		}
	}
	a.level++
	if a.level == a.h {
		return a.done(api.OK)
	}
	return a.to("I4")
}

func (a *actor) remove(word *uint64) bool {
	switch a.line {
	case "R1":
		if *word == 0 || *word%2 == 1 {
			return a.done(api.ErrAbsent)
		}
		a.level = a.h
	case "R2":
		if a.w = *word; a.w%2 == 0 {
			return a.to("R3")
		}
		if a.level == 0 {
			a.m.met["R2 too late"]++
			return a.done(api.ErrAbsent)
		}
	case "R3":
		if !a.swap(word, a.w, a.w+1) {
			return a.to("R2")
		}
		if a.level == 0 {
			return a.beginSearch("done")
		}
	}
	a.level--
	return a.to("R2")
}

func (a *actor) walk(word *uint64) bool {
	w := *word
	switch a.line {
	case "W1":
		a.c = number(w)
	case "W2":
		if w%2 == 0 {
			a.p = a.c
		}
		a.c = number(w)
	case "W3":
		if w%2 == 0 {
			a.at = a.c
		} else {
			a.m.met["W3 marked"]++
		}
		if a.c = number(w); a.c == endNumber {
			return a.done(api.OK)
		}
		return a.at != 0
	}
	if a.c != endNumber {
		x, ok := a.m.entries[a.c]
		if !ok {
			a.m.misses++
			return a.done(api.ErrSlot)
		}
		if x.Name < a.low {
			return a.to("W2")
		}
	}
	switch {
	case a.v > 0:
		a.v--
		return a.to("W1")
	case a.c == endNumber:
		return a.done(api.OK)
	}
	return a.to("W3")
}

// twins are a machine and the model of it.
type twins struct {
	real machine
	plan *actor
}

func told(m machine) string {
	if r, ok := m.(*walk); ok {
		return fmt.Sprint(r.Code(), r.Slot(), r.Ended())
	}
	return fmt.Sprint(m.Code(), 0, false)
}

func someKey(source *rand.Rand) string { return []string{"", "a", "b", "ba", "c"}[source.Intn(5)] }

// beginTwins begins one of the machines, some with wrong arguments.
func beginTwins(w *world, m *memory, source *rand.Rand) twins {
	slot := 1 + source.Intn(m.slots)
	if source.Intn(20) == 0 {
		slot = source.Intn(m.slots+4) - 2
	}
	plan := &actor{m: m, slot: slot, low: someKey(source)}
	switch source.Intn(5) {
	case 0, 1, 2:
		plan.kind = "insert"
		return twins{w.ladder.Insert(slot), plan}
	case 3:
		plan.kind = "remove"
		return twins{w.ladder.Remove(slot), plan}
	}
	plan.kind = "walk"
	return twins{w.ladder.Walk(plan.low), plan}
}

// bear takes a slot into use, in both worlds.
func bear(w *world, m *memory, source *rand.Rand) {
	height := 1 + source.Intn(m.levels)
	if source.Intn(20) == 0 {
		height = source.Intn(m.levels+4) - 1
	}
	x := entry{Name: someKey(source), Tall: height}
	if a, b := w.alloc(x.Name, x.Tall), m.alloc(x); a != b {
		w.t.Fatalf("Alloc gives %d, want %d", a, b)
	}
}

// meddle does what the rules forbid: it frees a slot, takes one into use, writes a link.
func meddle(w *world, m *memory, source *rand.Rand) {
	slot, v := 1+source.Intn(m.slots), source.Intn(m.levels)
	l := m.links[slot]
	switch kind := source.Intn(3); {
	case kind == 0 && l != nil:
		w.arena.Free(slot)
		delete(m.links, slot)
		delete(m.entries, slot)
		m.free = append(m.free, slot)
		m.arena++
	case kind == 1 && len(m.free) > 0:
		bear(w, m, source)
	case kind == 2 && l != nil:
		word := uint64(source.Intn(2*m.slots + 6))
		if source.Intn(3) == 0 {
			word = endWord - 2 + uint64(source.Intn(4))
		}
		w.set(slot, v, word)
		l[v] = word
		m.arena++
	}
}

// compare holds all that is to be seen against the model.
func compare(t *testing.T, w *world, m *memory) {
	t.Helper()
	for _, s := range w.arena.Live() {
		if right := m.links[s][:m.levels]; !slices.Equal(w.links(s), right) {
			t.Errorf("the links of %d: %d, want %d", s, w.links(s), right)
		}
	}
	for v := range m.levels {
		if w.ladder.Head(v) != m.heads[v] {
			t.Errorf("the head of %d: %d, want %d", v, w.ladder.Head(v), m.heads[v])
		}
		list, held := m.look(v)
		l, _ := w.ladder.List(v)
		h, _ := w.ladder.Held(v)
		if !slices.Equal(l, list) || h != held {
			t.Errorf("level %d: %v, %d held, want %v, %d held", v, l, h, list, held)
		}
	}
	if w.arena.Accesses() != m.arena || w.ladder.Accesses() != m.heading || w.arena.Misses() != m.misses {
		t.Errorf("accesses, to heads, misses: %d, %d, %d, want %d, %d, %d", w.arena.Accesses(), w.ladder.Accesses(), w.arena.Misses(), m.arena, m.heading, m.misses)
	}
}

// playTwins steps several machines by turns as chance has it, each beside its model.
func playTwins(t *testing.T, seed int64, meddling bool) map[string]int {
	source := rand.New(rand.NewSource(seed))
	slots, levels := 1+source.Intn(6), 1+source.Intn(4)
	w, m := newWorld(t, slots, levels), newMemory(slots, levels)
	for range slots {
		if !meddling || source.Intn(3) > 0 {
			bear(w, m, source)
		}
	}
	all := make([]twins, 1+source.Intn(4))
	for i := range all {
		all[i] = beginTwins(w, m, source)
	}
	for range 250 {
		i := source.Intn(len(all))
		if all[i].plan.over && source.Intn(3) > 0 {
			all[i] = beginTwins(w, m, source)
		}
		done := all[i].real.Step()
		want(t, "whether a step arrives", done, all[i].plan.Step())
		if meddling && source.Intn(15) == 0 {
			meddle(w, m, source)
		}
		for _, a := range all {
			if told(a.real) != a.plan.told() {
				t.Errorf("what %s tells: %s, want %s", a.plan.kind, told(a.real), a.plan.told())
			}
		}
		compare(t, w, m)
		if t.Failed() {
			t.Fatalf("seed %d: a step of %s(%d, %q)", seed, all[i].plan.kind, all[i].plan.slot, all[i].plan.low)
		}
	}
	return m.met
}

// Every step's access and every answer is as the chapter's lines say, by the rules and against them.
func TestEveryStepIsAsWritten(t *testing.T) {
	met := map[string]int{}
	for seed := range int64(2500) {
		for kind, n := range playTwins(t, seed, seed%2 == 0) {
			met[kind] += n
		}
	}
	for _, kind := range []string{
		"insert 0", "insert 22", "insert 50", "insert 51", "remove 0", "remove 22", "remove 50", "remove 52", "walk 0", "walk 22",
		"F1 begins again", "F3 fails", "I3 fails", "I5 fails", "I6 fails", "R3 fails", "I4 marked", "taken out", "R2 too late", "W3 marked",
		"F1 to I2", "F1 to F2", "F1 to F1", "F2 to F2", "F2 to F3", "F3 to F2", "F3 to F1", "F2 to I2", "F2 to I4", "F3 to I2", "I3 to I4", "I4 to I6", "I5 to I6", "I6 to I4", "R1 to R2", "R2 to R2", "R3 to R2", "R3 to F1", "W1 to W1", "W1 to W2", "W2 to W2", "W2 to W1", "W1 to W3", "W2 to W3",
	} {
		if met[kind] < 20 {
			t.Errorf("the runs have hardly met %q: %d times", kind, met[kind])
		}
	}
}

// A word that is no link leads to no slot: every call and every step ends, and none panics.
func TestWordsThatAreNoLinks(t *testing.T) {
	for _, word := range []uint64{1 << 32, 1<<32 + 1, 1<<63 - 1, 1 << 63, 1<<64 - 1} {
		for v := range 2 {
			w := newWorld(t, 4, 2, "a2", "b2", "c2", "bb2")
			w.put(1, 2, 3)
			w.set(2, v, word)
			all := []machine{w.ladder.Insert(2), w.ladder.Insert(4), w.ladder.Remove(1), w.ladder.Remove(2), w.ladder.Remove(3)}
			for _, m := range all {
				for range 40 {
					w.step(m)
				}
				w.set(2, v, word)
			}
			w.stops(w.ladder.Walk(""))
			w.stops(w.ladder.Walk("c"))
			list, _ := w.ladder.List(v)
			held, _ := w.ladder.Held(v)
			if slices.Max(append(list, held)) > 4 {
				t.Errorf("a word that is no link leads on: %v, %d", list, held)
			}
		}
	}
}
