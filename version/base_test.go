package version_test

import (
	"fmt"
	"testing"

	"strata/api"
	"strata/bits"
	"strata/version"
)

func TestNewIsRefusedByTheFirstPart(t *testing.T) {
	numbers := []int{-1 << 62, -1, 0, 1, 7, 256, 257, 4096, 4097, 1 << 40}
	for _, slots := range numbers {
		for _, buckets := range numbers {
			for _, places := range numbers {
				for _, clock := range stamps() {
					right := api.OK
					switch {
					case slots < 1 || slots > 4096:
						right = api.ErrShape
					case buckets < 1 || buckets > 256:
						right = api.ErrBucket
					case places < 1 || places > 256 || clock > api.MaxTime:
						right = api.ErrArg
					}
					b, e := version.New(api.Config{Slots: slots, Buckets: buckets, TxSlots: places, Clock: clock})
					want(t, fmt.Sprintf("P7.1: New of %d, %d, %d, %d", slots, buckets, places, clock), []any{e, b == nil}, []any{right, right != api.OK})
				}
			}
		}
	}
}

func TestNewLooksAtNothingElse(t *testing.T) {
	for _, n := range strange() {
		_, e := version.New(api.Config{Slots: 1, Buckets: 1, TxSlots: 1, Sessions: n, Coop: n})
		want(t, "P7.1: Sessions and Coop", e, api.OK)
	}
}

func TestNewIsEmpty(t *testing.T) {
	w := newWorld(t, 9, 5, 3, 77)
	slots, width := w.Cells.Shape()
	want(t, "P7.1: the arena", []any{slots, width, len(w.Cells.Live())}, []any{9, 8, 0})
	want(t, "P7.1: the hash index", w.Hash.Buckets(), 5)
	for bucket := range 5 {
		list, e := w.Hash.List(bucket)
		want(t, "P7.1: a bucket", []any{len(list), e}, []any{0, api.OK})
	}
	for level := range 4 {
		list, e := w.Order.List(level)
		want(t, "P7.1: a level", []any{len(list), e}, []any{0, api.OK})
	}
	_, e := w.Order.List(4)
	want(t, "P7.1: levels of the ladder", e, api.ErrArg)
	clock, _ := w.Tx.Horizon()
	want(t, "P7.1: the table", []any{w.Tx.Places(), clock, len(w.Tx.Live())}, []any{3, 77, 0})
	want(t, "P7.2: Accesses, Misses", []int{w.Accesses(), w.Misses()}, []int{0, 0})
}

// The indexes lie over the same arena, each with link cells of its own.
func TestNewLaysTheLinks(t *testing.T) {
	w := newWorld(t, 4, 1, 1, 0)
	slot := w.put("q", 5, api.Infinity) // of height 3
	words, _ := w.Cells.Peek(slot)
	hashEnd, _ := bits.Link(api.MaxSlots+1, false)
	orderEnd, _ := bits.Link(1<<31-1, false)
	want(t, "P7.1: the cells of a version", words, []uint64{5, api.Infinity, 0, hashEnd, orderEnd, orderEnd, orderEnd, 0})
}

func TestAccessesOfAllParts(t *testing.T) {
	w := newWorld(t, 4, 2, 2, 0)
	add := func(what, made string, do func()) {
		t.Helper()
		old, all, misses := w.count(), w.Accesses(), w.Misses()
		do()
		got := w.since(old)
		want(t, "the accesses of "+what, got, made)
		accesses, missed := 0, 0
		for _, letter := range made {
			if letter == 'x' {
				missed++
			} else {
				accesses++
			}
		}
		want(t, "P7.2: Accesses, Misses behind "+what, []int{w.Accesses() - all, w.Misses() - misses}, []int{accesses, missed})
	}
	add("an Alloc", "c", func() { w.Cells.Alloc(api.Entry{Name: "a", Tall: 1}) })
	add("a Load", "c", func() { w.Cells.Load(1, 0) })
	add("a Load of a slot that is not in use", "x", func() { w.Cells.Load(3, 0) })
	add("a head's load", "h", func() { w.Hash.Walk(0).Step() })
	add("a ladder's head", "o", func() { w.Order.Walk("").Step() })
	add("a Clock", "t", func() { w.Tx.Clock() })
	add("a State of one that is not in use", "tx", func() { w.Tx.State(1) })
	add("a State of one that is not there", "t", func() { w.Tx.State(9) })
	add("a look", "", func() {
		w.Words(1)
		w.Words(3)
		w.Bucket("a")
		w.Accesses()
		w.Misses()
	})
}

func TestBucket(t *testing.T) {
	for _, buckets := range []int{1, 2, 3, 7, 255, 256} {
		w := newWorld(t, 1, buckets, 1, 0)
		for _, key := range []string{"", "a", "b", "q", "zz", "\x00", "\xff\xff", string(make([]byte, 5000))} {
			want(t, fmt.Sprintf("P7.2: Bucket(%.9q) of %d", key, buckets), w.Bucket(key), bits.Hash(key)%uint64(buckets))
		}
		want(t, "P7.2: the hash", w.Bucket("a"), 12638187200555641996%uint64(buckets))
	}
}

func TestWords(t *testing.T) {
	w := newWorld(t, 3, 1, 1, 0)
	for _, begin := range append(stamps(), word(1), word(0)) {
		for _, end := range append(stamps(), word(1)) {
			slot, _ := w.Cells.Alloc(api.Entry{}, begin, end, 7, 8, 9)
			w.holds("P7.2", slot, begin, end)
			w.Cells.Free(slot)
		}
	}
	w.Cells.Alloc(api.Entry{}, 1, 2)
	for _, slot := range strange() {
		right := api.ErrSlot
		if _, e := w.Cells.Turn(slot); e == api.OK && w.Cells.Live()[0] == slot {
			continue
		}
		old := w.count()
		begin, end, e := w.Words(slot)
		want(t, "P7.2: Words of a slot that is not in use", []any{begin, end, e, w.since(old)}, []any{0, 0, right, ""})
	}
}

func TestTables(t *testing.T) {
	for _, end := range stamps() {
		for _, at := range stamps() {
			for _, state := range append(strange(), 7, 8) {
				for _, own := range []bool{false, true} {
					begun, lives := api.SayNo, api.SayNo
					switch {
					case own:
						begun = api.SayYes
					case state == api.TxActive || state == api.TxAborted:
						lives = api.SayYes
					case state == api.TxTerminated:
						begun, lives = api.SayAgain, api.SayAgain
					case state != api.TxPreparing && state != api.TxCommitted:
					case state == api.TxPreparing && end == 0:
						begun, lives = api.SayAsk, api.SayAsk
					case end > at:
						lives = api.SayYes
					case state == api.TxPreparing:
						begun, lives = api.SayMaybe, api.SayUnless
					default:
						begun = api.SayYes
					}
					want(t, fmt.Sprintf("P7.3: the tables at %v, %d, %d, %d", own, state, end, at), []int{version.JudgeBegin(own, state, end, at), version.JudgeEnd(own, state, end, at)}, []int{begun, lives})
				}
			}
		}
	}
}

// Each line of the tables, as it is written.
func TestTableLines(t *testing.T) {
	for _, c := range []struct {
		line        string
		own         bool
		state       int
		end         uint64
		begun, ends int
	}{
		{"own", true, 2, 0, 1, 0}, {"own, of no state", true, 0, 0, 1, 0}, {"own, terminated", true, 5, 3, 1, 0},
		{"active", false, 1, 0, 0, 1}, {"active, with an end", false, 1, 3, 0, 1},
		{"preparing, not drawn", false, 2, 0, 5, 5}, {"preparing, above", false, 2, 10, 0, 1}, {"preparing, at", false, 2, 9, 2, 3}, {"preparing, below", false, 2, 7, 2, 3},
		{"committed, above", false, 3, 10, 0, 1}, {"committed, at", false, 3, 9, 1, 0}, {"committed, below", false, 3, 8, 1, 0}, {"committed, no end", false, 3, 0, 1, 0},
		{"aborted", false, 4, 0, 0, 1}, {"aborted, with an end", false, 4, 3, 0, 1}, {"terminated", false, 5, 3, 4, 4},
		{"0", false, 0, 3, 0, 0}, {"6", false, 6, 3, 0, 0}, {"-1", false, -1, 0, 0, 0},
	} {
		want(t, "P7.3: "+c.line, []int{version.JudgeBegin(c.own, c.state, c.end, 9), version.JudgeEnd(c.own, c.state, c.end, 9)}, []int{c.begun, c.ends})
	}
	want(t, "P7.3: at 0", []int{version.JudgeBegin(false, 2, 0, 0), version.JudgeEnd(false, 2, 1, 0), version.JudgeBegin(false, 3, 0, 0)}, []int{api.SayAsk, api.SayYes, api.SayYes})
}
