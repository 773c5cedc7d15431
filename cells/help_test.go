package cells_test

import (
	"fmt"
	"iter"
	"math/rand"
	"slices"
	"testing"

	"strata/api"
	"strata/cells"
)

// memory is what an arena and the model of one can be asked.
type memory interface {
	Shape() (int, int)
	Alloc(p int, words ...uint64) (int, api.Errno)
	Free(slot int) api.Errno
	Payload(slot int) (int, api.Errno)
	Load(slot, cell int) (uint64, api.Errno)
	Store(slot, cell int, w uint64) api.Errno
	CAS(slot, cell int, old, fresh uint64) (bool, api.Errno)
	Add(slot, cell int, d uint64) (uint64, api.Errno)
	AddAll(slot, cell int, deltas ...uint64) (uint64, api.Errno)
	Accesses() int
	Misses() int
	Peek(slot int) ([]uint64, api.Errno)
	Turn(slot int) (int, api.Errno)
	Live() []int
	All() iter.Seq2[int, int]
}

const (
	askAlloc = iota
	askFree
	askPayload
	askLoad
	askStore
	askCAS
	askAdd
	askAddAll
	askAccesses
	askMisses
	askPeek
	askTurn
	askLive
	askAll
	askShape
	asks
)

type call struct {
	kind       int
	slot, cell int
	payload    int
	words      []uint64 // of CAS, Store and Add the first ones
}

// ask makes a call and writes down what was answered.
func ask(m memory, c call) string {
	var w [2]uint64
	copy(w[:], c.words)
	switch c.kind {
	case askAlloc:
		slot, e := m.Alloc(c.payload, c.words...)
		return fmt.Sprint("Alloc ", slot, e)
	case askFree:
		return fmt.Sprint("Free ", m.Free(c.slot))
	case askPayload:
		p, e := m.Payload(c.slot)
		return fmt.Sprint("Payload ", p, e)
	case askLoad:
		v, e := m.Load(c.slot, c.cell)
		return fmt.Sprint("Load ", v, e)
	case askStore:
		return fmt.Sprint("Store ", m.Store(c.slot, c.cell, w[0]))
	case askCAS:
		ok, e := m.CAS(c.slot, c.cell, w[0], w[1])
		return fmt.Sprint("CAS ", ok, e)
	case askAdd:
		v, e := m.Add(c.slot, c.cell, w[0])
		return fmt.Sprint("Add ", v, e)
	case askAddAll:
		v, e := m.AddAll(c.slot, c.cell, c.words...)
		return fmt.Sprint("AddAll ", v, e)
	}
	return audit(m, c)
}

func audit(m memory, c call) string {
	switch c.kind {
	case askAccesses:
		return fmt.Sprint("Accesses ", m.Accesses())
	case askMisses:
		return fmt.Sprint("Misses ", m.Misses())
	case askPeek:
		l, e := m.Peek(c.slot)
		return fmt.Sprint("Peek ", l, e)
	case askTurn:
		n, e := m.Turn(c.slot)
		return fmt.Sprint("Turn ", n, e)
	case askLive:
		return fmt.Sprint("Live ", m.Live())
	case askAll:
		told := "All"
		for slot, p := range m.All() {
			told += fmt.Sprint(" ", slot, ":", p)
		}
		return told
	}
	slots, width := m.Shape()
	return fmt.Sprint("Shape ", slots, width)
}

// model is chapter 2 word by word, for one caller at a time.
type model struct {
	slots, width     int
	free             []int
	held             map[int][]uint64
	payloads         map[int]int
	turns            map[int]int
	accesses, misses int
}

func newModel(slots, width int) *model {
	m := &model{slots: slots, width: width, held: map[int][]uint64{}, payloads: map[int]int{}, turns: map[int]int{}}
	for i := range slots {
		m.free = append(m.free, i+1)
	}
	return m
}

func (m *model) clone() *model {
	c := newModel(m.slots, m.width)
	c.free = slices.Clone(m.free)
	for slot, words := range m.held {
		c.held[slot] = slices.Clone(words)
		c.payloads[slot] = m.payloads[slot]
	}
	for slot, n := range m.turns {
		c.turns[slot] = n
	}
	c.accesses, c.misses = m.accesses, m.misses
	return c
}

func (m *model) Shape() (int, int) { return m.slots, m.width }

func (m *model) Alloc(p int, words ...uint64) (int, api.Errno) {
	if len(words) > m.width {
		return 0, api.ErrWords
	}
	m.accesses++
	if len(m.free) == 0 {
		return 0, api.ErrFull
	}
	slot := m.free[0]
	m.free = m.free[1:]
	m.held[slot] = append(slices.Clone(words), make([]uint64, m.width-len(words))...)
	m.payloads[slot] = p
	m.turns[slot]++
	return slot, api.OK
}

func (m *model) look(slot, cell int) api.Errno {
	if m.held[slot] == nil {
		m.misses++
		return api.ErrSlot
	}
	if cell < 0 || cell >= m.width {
		return api.ErrCell
	}
	return api.OK
}

func (m *model) Free(slot int) api.Errno {
	if e := m.look(slot, 0); e != api.OK {
		return e
	}
	m.accesses++
	delete(m.held, slot)
	delete(m.payloads, slot)
	m.free = append(m.free, slot)
	return api.OK
}

func (m *model) Payload(slot int) (int, api.Errno) { return m.payloads[slot], m.look(slot, 0) }

func (m *model) Load(slot, cell int) (uint64, api.Errno) { return m.Add(slot, cell, 0) }

func (m *model) Store(slot, cell int, w uint64) api.Errno {
	held, e := m.Add(slot, cell, 0)
	if e == api.OK {
		m.held[slot][cell] += w - held
	}
	return e
}

func (m *model) CAS(slot, cell int, old, fresh uint64) (bool, api.Errno) {
	held, e := m.Add(slot, cell, 0)
	if e != api.OK || held != old {
		return false, e
	}
	m.held[slot][cell] = fresh
	return true, api.OK
}

func (m *model) Add(slot, cell int, d uint64) (uint64, api.Errno) {
	if e := m.look(slot, cell); e != api.OK {
		return 0, e
	}
	m.accesses++
	held := m.held[slot][cell]
	m.held[slot][cell] += d
	return held, api.OK
}

func (m *model) AddAll(slot, cell int, deltas ...uint64) (uint64, api.Errno) {
	if len(deltas) > 64 {
		return 0, api.ErrWords
	}
	if e := m.look(slot, cell); e != api.OK {
		return 0, e
	}
	for _, d := range deltas {
		m.Add(slot, cell, d)
	}
	return m.held[slot][cell], api.OK
}

func (m *model) Accesses() int { return m.accesses }
func (m *model) Misses() int   { return m.misses }

func (m *model) Peek(slot int) ([]uint64, api.Errno) {
	if m.held[slot] == nil {
		return nil, api.ErrSlot
	}
	return m.held[slot], api.OK
}

func (m *model) Turn(slot int) (int, api.Errno) {
	if slot < 1 || slot > m.slots {
		return 0, api.ErrSlot
	}
	return m.turns[slot], api.OK
}

func (m *model) Live() []int {
	var live []int
	for slot := range m.held {
		live = append(live, slot)
	}
	slices.Sort(live)
	return live
}

func (m *model) All() iter.Seq2[int, int] {
	return func(yield func(int, int) bool) {
		for _, slot := range m.Live() {
			if !yield(slot, m.payloads[slot]) {
				return
			}
		}
	}
}

// anyCall is one of the calls on an arena of a few slots and cells, the wrong ones among them.
func anyCall(source *rand.Rand, slots, width int) call {
	words := make([]uint64, source.Intn(width+2))
	for i := range words {
		words[i] = uint64(source.Intn(4)) - 1
	}
	return call{
		kind:    source.Intn(asks),
		slot:    source.Intn(slots+2) - source.Intn(2),
		cell:    source.Intn(width+2) - 1,
		payload: source.Intn(1000),
		words:   words,
	}
}

// arena gives one of that shape.
func arena[P any](t *testing.T, slots, width int) *cells.Arena[P] {
	t.Helper()
	a, e := cells.New[P](slots, width)
	if a == nil || e != api.OK {
		t.Fatalf("P2.1: New(%d, %d) = %v, %d", slots, width, a, e)
	}
	return a
}

// want holds what was answered against what should have been.
func want(t *testing.T, what string, got, right any) {
	t.Helper()
	if fmt.Sprint(got) != fmt.Sprint(right) {
		t.Errorf("%s: %v, want %v", what, got, right)
	}
}

// pair takes the two answers of a call as one.
func pair(v any, e api.Errno) [2]any { return [2]any{v, e} }
