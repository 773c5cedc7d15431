package sweep_test

import (
	"fmt"
	"testing"

	"strata/api"
	"strata/bits"
)

// Each kind of word as a begin and as an end, and the floors about it: which accesses are made, and whether it is claimed.
func TestCollectByWords(t *testing.T) {
	for _, c := range []struct {
		begin, end string
		floor      uint64
		accesses   string // ahead of the indexes
		e          api.Errno
	}{
		{"inf", "inf", 0, "cc", api.OK}, {"inf", "#1", 0, "cc", api.OK}, {"inf", "bad", 0, "cc", api.OK}, {"inf", "7", 0, "cc", api.OK}, {"inf", "7", 7, "cc", api.OK},
		{"3", "7", 7, "ccc", api.OK}, {"3", "7", 8, "ccc", api.OK}, {"3", "7", 1<<64 - 1, "ccc", api.OK}, {"9", "7", 7, "ccc", api.OK}, {"0", "0", 0, "ccc", api.OK},
		{"3", "7", 6, "cc", api.ErrNeeded}, {"3", "7", 0, "cc", api.ErrNeeded}, {"3", "inf", 7, "cc", api.ErrNeeded}, {"3", "inf", 1<<64 - 1, "cc", api.ErrNeeded},
		{"3", "#1", 7, "cc", api.ErrNeeded}, {"3", "#2", 1<<64 - 1, "cc", api.ErrNeeded}, {"3", "bad", 7, "cc", api.ErrNeeded}, {"3", "bad", 1<<64 - 1, "cc", api.ErrNeeded},
		{"#1", "inf", 7, "c", api.ErrNeeded}, {"#1", "3", 7, "c", api.ErrNeeded}, {"#1", "#1", 7, "c", api.ErrNeeded}, {"#200", "3", 1<<64 - 1, "c", api.ErrNeeded},
		{"bad", "inf", 7, "c", api.ErrNeeded}, {"bad", "3", 7, "c", api.ErrNeeded}, {"bad", "bad", 1<<64 - 1, "c", api.ErrNeeded},
	} {
		what := fmt.Sprintf("P8.5: Collect of a version from %s to %s with the floor %d", c.begin, c.end, c.floor)
		w := newWorld(t, 4, 1, 2, 9)
		slot := w.put("a", wordOf(c.begin), wordOf(c.end))
		m := w.Collect(slot, c.floor)
		if c.e != api.OK {
			inside := w.inside()
			w.finish(what, m, c.accesses, c.e, nil)
			want(t, what+": nothing is changed", w.inside() == inside, true)
			continue
		}
		// The hash index's Remove: the link, its mark, the head, the link, the head; the ladder's of a height of one: the link twice, its mark, four heads, the link, the head.
		tall := bits.Height("a", api.MaxLevels)
		want(t, "the height of a", tall, 1)
		w.finish(what, m, c.accesses+"cchch"+"ccc"+"oooo"+"co"+"t"+"l", c.e, nil)
		w.amounts(what, 1, 1, 0)
		w.linked(what, nil, nil)
		want(t, what+": its claim", w.claim(slot), 1)
	}
}

func TestCollectOfBadWords(t *testing.T) {
	for _, bad := range badWords() {
		w := newWorld(t, 4, 1, 2, 9)
		slot := w.put("a", bad, 1)
		w.finish(fmt.Sprint("P8.5: the bad begin ", bad), w.Collect(slot, 9), "c", api.ErrNeeded, nil)
		w.write(slot, 1, bad)
		w.finish(fmt.Sprint("P8.5: the bad end ", bad), w.Collect(slot, 1<<64-1), "cc", api.ErrNeeded, nil)
		want(t, "P8.5: its claim", w.claim(slot), 0)
		w.linked("P8.5: a bad word", []int{slot}, []int{slot})
	}
}

// A slot that is not in use is refused with each access that names it, without an access.
func TestCollectOfFreeSlots(t *testing.T) {
	w := newWorld(t, 4, 1, 2, 9)
	for _, slot := range strange() {
		w.refused(fmt.Sprintf("P8.5: Collect(%d) where no slot is in use", slot), w.Collect(slot, 9), api.ErrSlot)
	}
	// The accesses of a Collect that name the slot, by their number; it is freed ahead of each of them.
	for _, c := range []struct {
		ahead string
		claim bool
	}{{"", false}, {"c", false}, {"cc", false}, {"ccc", true}, {"cccc", true}, {"ccccch", true}, {"ccccchch", true}, {"ccccchchc", true}, {"ccccchchcc", true}} {
		w := newWorld(t, 4, 1, 2, 9)
		slot := w.put("a", 3, 7)
		m := w.Collect(slot, 7)
		what := fmt.Sprintf("P8.5: a slot that is freed behind %q", c.ahead)
		w.play(what, m, c.ahead)
		want(t, what+": its claim", w.claim(slot), map[bool]int{true: 1}[c.claim])
		w.Cells.Free(slot)
		w.finish(what, m, "x", api.ErrSlot, nil)
		w.amounts(what, 0, 0, 0)
	}
}

// A claim that another one has, of whatever number it is, is left alone.
func TestCollectOfClaimed(t *testing.T) {
	for _, claim := range []uint64{1, 2, 7, 1<<64 - 1} {
		w := newWorld(t, 4, 1, 2, 9)
		slot, given := w.put("a", 3, 7), w.put("b", api.Infinity, api.Infinity)
		w.Cells.Store(slot, api.CellClaim, claim)
		w.Cells.Store(given, api.CellClaim, claim)
		inside := w.inside()
		w.finish("P8.5: one that is claimed", w.Collect(slot, 7), "ccc", api.ErrClaimed, nil)
		w.finish("P8.5: one that is claimed, given up", w.Collect(given, 7), "cc", api.ErrClaimed, nil)
		w.finish("P8.5: one that is claimed, and needed", w.Collect(slot, 6), "cc", api.ErrNeeded, nil)
		want(t, "P8.5: nothing is changed", w.inside() == inside, true)
		w.amounts("P8.5: one that is claimed", 0, 0, 0)
	}
}

// Two Collects of one version, of one sweeper or of two, in every order of their steps: one takes it out, the other is told so.
func TestCollectsOfOneVersion(t *testing.T) {
	for _, begin := range []string{"inf", "3"} {
		for ahead := range 5 {
			w := newWorld(t, 4, 1, 2, 9)
			slot := w.put("a", wordOf(begin), 7)
			other := w.another()
			one, two := w.Collect(slot, 7), other.Collect(slot, 7)
			for range ahead {
				one.Step()
			}
			first := ahead >= len("ccc") || begin == "inf" && ahead >= len("cc")
			two.Step()
			for !two.Step() {
			}
			for !one.Step() {
			}
			codes := []api.Errno{one.Code(), two.Code()}
			right := map[bool][]api.Errno{true: {api.OK, api.ErrClaimed}, false: {api.ErrClaimed, api.OK}}[first]
			want(t, fmt.Sprintf("P8.12: two Collects of a version from %s, the first %d steps ahead", begin, ahead), codes, right)
			want(t, "P8.2: each counts its own", []int{w.Limbo(), other.Limbo(), w.Unlinked() + other.Unlinked()}, []int{map[bool]int{true: 1}[first], map[bool]int{false: 1}[first], 1})
			w.linked("P8.5: behind both", nil, nil)
			want(t, "P8.9: Misses", w.Misses(), 0)
		}
	}
}

// What is written behind the claim makes no difference: it goes its way out.
func TestCollectBehindTheClaim(t *testing.T) {
	w := newWorld(t, 4, 1, 2, 9)
	slot := w.put("a", 3, 7)
	m := w.Collect(slot, 7)
	w.play("P8.5: up to the claim", m, "ccc")
	w.write(slot, word(1), api.Infinity)
	w.run(m)
	want(t, "P8.5: behind the claim", m.Code(), api.OK)
	w.linked("P8.5: behind the claim", nil, nil)
}

// The words are loaded one by one: what stands there at that step counts.
func TestCollectBetweenTheWords(t *testing.T) {
	w := newWorld(t, 4, 1, 2, 9)
	slot := w.put("a", word(1), 7)
	m := w.Collect(slot, 7)
	w.write(slot, 3, api.Infinity)
	w.play("P8.5: the begin word", m, "c")
	w.write(slot, word(1), 7)
	w.play("P8.5: the end word", m, "c")
	w.write(slot, word(1), api.Infinity)
	w.run(m)
	want(t, "P8.5: what stood there", m.Code(), api.OK)
}

// It leaves the bucket of its key, and no other; what stands about it stays.
func TestCollectAmongOthers(t *testing.T) {
	const buckets = 3
	w := newWorld(t, 16, buckets, 2, 9)
	var keys []string
	for i := 0; len(keys) < 9; i++ {
		keys = append(keys, fmt.Sprint("key ", i))
	}
	slots := map[string]int{}
	for _, key := range keys {
		slots[key] = w.put(key, 3, 7)
	}
	for n, key := range []string{keys[4], keys[0], keys[8], keys[3]} {
		old := []any{}
		for bucket := range buckets {
			if bucket != w.Bucket(key) {
				list, _ := w.Hash.List(bucket)
				old = append(old, list)
			}
		}
		list, _ := w.Hash.List(w.Bucket(key))
		held := len(list)
		w.collect(slots[key], 7)
		now := []any{}
		for bucket := range buckets {
			if bucket != w.Bucket(key) {
				list, _ := w.Hash.List(bucket)
				now = append(now, list)
			}
		}
		list, _ = w.Hash.List(w.Bucket(key))
		row, _ := w.Order.Held(0)
		want(t, "P8.5: among others", []any{now, len(list), row}, []any{old, held - 1, len(keys) - n - 1})
		w.amounts("P8.5: among others", n+1, n+1, 0)
	}
	want(t, "P8.9: Misses", w.Misses(), 0)
}

// A version that stands in one index alone ends the Collect with the other's error; it stays claimed and does not enter the limbo.
func TestCollectOfHalfLinked(t *testing.T) {
	entry := api.Entry{Name: "a", Tall: 1}
	w := newWorld(t, 4, 1, 2, 9)
	slot, _ := w.Cells.Alloc(entry, 3, 7)
	w.finish("P8.5: in no index", w.Collect(slot, 7), "ccc"+"c", api.ErrUnlinked, nil)
	want(t, "P8.5: its claim", w.claim(slot), 1)

	w = newWorld(t, 4, 1, 2, 9)
	slot, _ = w.Cells.Alloc(entry, 3, 7)
	w.run(w.Hash.Insert(0, slot))
	w.finish("P8.5: in the hash index alone", w.Collect(slot, 7), "ccc"+"cchch"+"c", api.ErrAbsent, nil)
	want(t, "P8.5: its claim", w.claim(slot), 1)
	w.linked("P8.5: in the hash index alone", nil, nil)
	w.amounts("P8.5: in the hash index alone", 0, 0, 0)

	w = newWorld(t, 4, 1, 2, 9)
	slot, _ = w.Cells.Alloc(api.Entry{Name: "a", Tall: 9}, 3, 7)
	w.run(w.Hash.Insert(0, slot))
	w.finish("P8.5: a height that may not be", w.Collect(slot, 7), "ccc"+"cchch", api.ErrLevel, nil)
	w.amounts("P8.5: a height that may not be", 0, 0, 0)
}

// The stamp is the clock's at (C6), behind both indexes; what is drawn ahead of (C7) does not count.
func TestCollectStamp(t *testing.T) {
	w := newWorld(t, 4, 1, 2, 9)
	slot := w.put("a", 3, 7)
	m := w.Collect(slot, 7)
	w.play("P8.5: up to the stamp", m, "ccc"+"cchch"+"ccc"+"oooo"+"co")
	w.tick(12)
	w.play("P8.5: the stamp", m, "t")
	w.tick(15)
	w.finish("P8.5: into limbo", m, "l", api.OK, nil)
	w.finish("P8.5: the stamp is 12", w.Reclaim(12, 9), "l", api.OK, 0)
	w.finish("P8.5: the stamp is 12", w.Reclaim(13, 9), "lcl", api.OK, 1)
}

// A clock without room still tells its time: a stamp can be had.
func TestCollectAtTheLastTime(t *testing.T) {
	w := newWorld(t, 4, 1, 2, api.MaxTime)
	slot := w.put("a", 3, api.MaxTime)
	w.finish("P8.5: below the last time", w.Collect(slot, api.MaxTime-1), "cc", api.ErrNeeded, nil)
	w.collect(slot, api.MaxTime)
	w.finish("P8.6: the last stamp", w.Reclaim(api.MaxTime, 9), "l", api.OK, 0)
	w.finish("P8.6: the last stamp", w.Reclaim(api.MaxTime+1, 9), "lcl", api.OK, 1)
}
