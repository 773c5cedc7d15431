package sweep_test

import (
	"fmt"
	"strings"
	"testing"

	"strata/api"
	"strata/version"
)

// out are the accesses of one Remove from the front of a bucket, and of one from a ladder's row where nothing stands ahead of it, of a height of one.
const out = "cchch" + "ccc" + "oooo" + "co"

func TestPassBuckets(t *testing.T) {
	for _, buckets := range []int{1, 3, api.MaxBuckets} {
		w := newWorld(t, 4, buckets, 2, 9)
		for _, bucket := range append(strange(), buckets) {
			m := w.Pass(bucket)
			if bucket < 0 || bucket >= buckets {
				w.refused(fmt.Sprintf("P8.7: Pass(%d) of %d buckets", bucket, buckets), m, api.ErrBucket)
				continue
			}
			w.run(m)
			want(t, fmt.Sprintf("P8.7: Pass(%d) of %d buckets", bucket, buckets), m.Code(), api.OK)
		}
	}
	// There being no such bucket comes ahead of a table without a free place, and of a clock without room.
	w := newWorld(t, 4, 1, 1, api.MaxTime)
	w.open(1)
	w.refused("P8.7: ErrBucket comes first", w.Pass(1), api.ErrBucket)
}

// A bucket that holds nothing: the floor (the clock, each place), the table's Free, the look at the limbo, Open, Start, the head, Quit.
func TestPassOfNothing(t *testing.T) {
	for places := 1; places <= 5; places++ {
		w := newWorld(t, 4, 2, places, 9)
		m := w.Pass(1)
		want(t, "P8.7: ahead of its steps", []any{m.Code(), told(m), w.all()}, []any{api.OK, [2]uint64{}, 0})
		w.play("P8.7: the floor", m, strings.Repeat("t", places))
		want(t, "P8.7: Floor is 0 till it is found", m.Floor(), 0)
		w.play("P8.7: the floor's last step", m, "t")
		want(t, "P8.7: Floor from then on", m.Floor(), 10)
		want(t, "P8.7: no record yet", len(w.Tx.Live()), 0)
		w.play("P8.7: Free, the look, Open", m, "tlt")
		info, _ := w.Tx.Info(1)
		want(t, "P8.7: its record", []any{w.Tx.Live(), info}, []any{[]int{1}, api.TxInfo{}})
		w.play("P8.7: Start", m, "tttt")
		w.play("P8.7: the head", m, "h")
		w.play("P8.7: Quit", m, "tt")
		w.finish("P8.7: an empty bucket", m, "t", api.OK, [2]uint64{0, 10})
		clock, _ := w.Tx.Horizon()
		want(t, "P8.7: behind it", []any{w.Tx.Live(), w.Tx.Waiting(), clock, w.Misses()}, []any{[]int{}, 0, 10, 0})
	}
}

// Garbage goes, what is needed or claimed stays; the counts grow step by step.
func TestPassOfVersions(t *testing.T) {
	w := newWorld(t, 8, 1, 2, 9)
	later := w.put("n", 3, 11)
	claimed := w.put("l", 3, 5)
	w.Cells.Store(claimed, api.CellClaim, 1)
	inUse := w.put("k", word(1), api.Infinity)
	gone := w.put("d", api.Infinity, word(2))
	old := w.put("c", 3, 10) // its end is just the floor
	stays := w.put("a", 3, api.Infinity)
	m := w.Pass(0)
	w.play("P8.7: up to the walk", m, "ttt"+"t"+"l"+"t"+"tttt"+"h")
	want(t, "P8.7: the floor", m.Floor(), 10)
	w.play("P8.7: one that has not ended", m, "c"+"cc")
	want(t, "P8.7: Unlinked", m.Unlinked(), 0)
	// It stands behind another one in the bucket, and between two in the lowest row of the ladder.
	w.play("P8.7: one that has ended", m, "c"+"ccc"+"cchccc"+"ccc"+"oooo"+"cccc"+"t")
	want(t, "P8.7: Unlinked", []int{m.Unlinked(), w.Unlinked()}, []int{0, 0})
	w.play("P8.7: into limbo", m, "l")
	want(t, "P8.7: Unlinked", []int{m.Unlinked(), w.Unlinked()}, []int{1, 1})
	for done := false; !done && w.claim(gone) == 0; {
		_, done = w.step(m)
	}
	for done := false; !done && w.Limbo() < 2; {
		want(t, "P8.7: Unlinked", m.Unlinked(), 1)
		_, done = w.step(m)
	}
	want(t, "P8.7: Unlinked", m.Unlinked(), 2)
	w.play("P8.7: a transaction's", m, "c"+"c")
	w.play("P8.7: one that is claimed", m, "c"+"ccc")
	w.play("P8.7: one that ends above the floor", m, "c"+"cc")
	w.finish("P8.7: Quit", m, "ttt", api.OK, [2]uint64{2, 10})
	w.linked("P8.7: what stays", []int{stays, inUse, claimed, later}, []int{stays, inUse, claimed, later})
	w.amounts("P8.7: what goes", 2, 2, 0)
	want(t, "P8.7: slots in use", []any{w.claim(old), w.claim(gone), len(w.Cells.Live())}, []any{1, 1, 6})
}

// Its own bucket alone is gone along.
func TestPassOfOneBucket(t *testing.T) {
	const buckets = 4
	w := newWorld(t, 40, buckets, 2, 9)
	held := map[int]int{}
	for i := range 30 {
		key := fmt.Sprint("key ", i)
		w.put(key, 1, 2)
		held[w.Bucket(key)]++
	}
	for bucket := range buckets {
		m := w.Pass(bucket)
		w.run(m)
		want(t, "P8.7: Unlinked of a bucket", []any{m.Unlinked(), m.Code()}, []any{held[bucket], api.OK})
		for other := range buckets {
			n, _ := w.Hash.Held(other)
			want(t, "P8.7: another bucket", n, map[bool]int{true: held[other]}[other > bucket])
		}
	}
}

// The table's Free goes on till it answers false, and what is in limbo is freed till the front is not below the floor.
func TestPassFreesWhatWaits(t *testing.T) {
	for waiting := range 4 {
		for limbo := range 4 {
			w := newWorld(t, 8, 1, 5, 9)
			for range waiting {
				w.open(1)
			}
			for id := 1; id <= waiting; id++ {
				w.leave(id)
			}
			w.limbo(make9(limbo)...)
			m := w.Pass(0)
			what := fmt.Sprintf("P8.7: %d records and %d slots that wait", waiting, limbo)
			w.play(what, m, "tttttt"+strings.Repeat("t", waiting))
			want(t, what, []int{len(w.Tx.Live()), w.Tx.Waiting()}, []int{0, 0})
			w.play(what, m, "t")
			for n := range limbo {
				w.play(what, m, "lc")
				w.amounts(what, limbo-n-1, limbo, n+1)
			}
			w.finish(what, m, "l"+"t"+"tttt"+"h"+"ttt", api.OK, [2]uint64{0, 10})
		}
	}
}

func make9(n int) []uint64 {
	list := make([]uint64, n)
	for i := range list {
		list[i] = 9
	}
	return list
}

// What may still be held is not freed: neither records nor slots.
func TestPassKeepsWhatMayBeHeld(t *testing.T) {
	w := newWorld(t, 8, 1, 4, 9)
	held, begin := w.begin() // 10
	w.leave(func() int { id, _ := w.begin(); return id }())
	w.limbo(12)
	m := w.Pass(0)
	w.finish("P8.7: somebody is at work", m, "ttttt"+"t"+"l"+"t"+"tttt"+"h"+"ttt", api.OK, [2]uint64{0, begin})
	w.amounts("P8.9: somebody is at work", 1, 1, 0)
	want(t, "P8.9: the record", w.Tx.Waiting(), 1)
	w.leave(held)
	m = w.Pass(0)
	w.run(m)
	w.amounts("P8.9: nobody is at work", 0, 1, 1)
	want(t, "P8.9: the records", []any{w.Tx.Waiting(), w.Tx.Live()}, []any{0, []int{}})
}

// No place is free: Open is the last access; what waited below the floor has been freed by then.
func TestPassWithoutAPlace(t *testing.T) {
	w := newWorld(t, 8, 1, 2, 9)
	w.open(2)
	slot := w.put("a", 1, 2)
	w.limbo(9)
	w.finish("P8.7: no place", w.Pass(0), "ttt"+"t"+"lcl"+"t", api.ErrTxFull, [2]uint64{0, 10})
	w.amounts("P8.7: no place", 0, 1, 1)
	w.linked("P8.7: no place", []int{slot}, []int{slot})
	want(t, "P8.7: the records", w.Tx.Live(), []int{1, 2})
}

// A place that the Pass itself has freed will do.
func TestPassOfItsOwnPlace(t *testing.T) {
	w := newWorld(t, 8, 1, 1, 9)
	w.open(1)
	w.leave(1)
	w.put("a", 1, 2)
	m := w.Pass(0)
	w.run(m)
	want(t, "P8.7: a place that it freed", []any{m.Code(), m.Unlinked()}, []any{api.OK, 1})
}

// A clock without room: Start's third step, then Quit; ErrClock is told when that is done.
func TestPassWithoutTime(t *testing.T) {
	w := newWorld(t, 8, 1, 2, api.MaxTime)
	slot := w.put("a", 1, 2)
	m := w.Pass(0)
	w.play("P8.7: up to Start", m, "ttt"+"t"+"l"+"t"+"tt")
	w.play("P8.7: no time is left", m, "t")
	w.play("P8.7: Quit", m, "tt")
	w.finish("P8.7: no time is left", m, "t", api.ErrClock, [2]uint64{0, api.MaxTime + 1})
	want(t, "P8.7: its record", w.Tx.Live(), []int{})
	w.linked("P8.7: no time is left", []int{slot}, []int{slot})

	// One timestamp is left.
	w = newWorld(t, 8, 1, 2, api.MaxTime-1)
	w.put("a", 1, 2)
	m = w.Pass(0)
	w.finish("P8.7: the last timestamp", m, "ttt"+"t"+"l"+"t"+"tttt"+"h"+"c"+"ccc"+out+"tl"+"ttt", api.OK, [2]uint64{1, api.MaxTime})
	m = w.Pass(0)
	w.run(m)
	want(t, "P8.7: behind the last timestamp", []any{m.Code(), w.Freed(), w.Tx.Live()}, []any{api.ErrClock, 1, []int{}})
}

// The record is no longer there when Start, or Quit, comes to it: other hands have dropped it.
func TestPassWithoutItsRecord(t *testing.T) {
	drop := func(w *world) {
		w.Tx.Move(1, api.TxTerminated)
		want(t, "Drop", w.Tx.Drop(1), api.OK)
	}
	w := newWorld(t, 8, 1, 2, 9)
	w.put("a", 1, 2)
	m := w.Pass(0)
	w.play("P8.4: up to Start", m, "ttt"+"t"+"l"+"t")
	drop(w)
	w.finish("P8.4: Start is refused", m, "t"+"tx", api.ErrTx, [2]uint64{0, 10})

	w = newWorld(t, 8, 1, 2, 9)
	m = w.Pass(0)
	w.play("P8.4: up to the walk", m, "ttt"+"t"+"l"+"t"+"tttt")
	drop(w)
	w.finish("P8.7: Quit is refused", m, "h"+"tx", api.ErrTx, [2]uint64{0, 10})

	w = newWorld(t, 8, 1, 2, 9)
	m = w.Pass(0)
	w.play("P8.4: up to the walk", m, "ttt"+"t"+"l"+"t"+"tttt")
	w.Tx.Move(1, api.TxPreparing)
	w.finish("P8.7: Quit is refused", m, "h"+"t", api.ErrMove, [2]uint64{0, 10})
}

// hold allocates a version with a link of its own making, and makes it the front of bucket 0.
func (w *world) hold(entry api.Entry, begin, end uint64) int {
	w.t.Helper()
	slot, _ := w.Cells.Alloc(entry, begin, end)
	m := w.Hash.Insert(0, slot)
	w.run(m)
	want(w.t, "Insert", m.Code(), api.OK)
	return slot
}

// Errors of a Collect: the walk goes no further, Quit comes, and then the error is told.
func TestPassWhereCollectFails(t *testing.T) {
	const ahead = "ttt" + "t" + "l" + "t" + "tttt" + "h"
	w := newWorld(t, 8, 1, 2, 9)
	stays := w.put("b", 1, 2)
	w.hold(api.Entry{Name: "a", Tall: 1}, 1, 2) // the ladder has it not
	m := w.Pass(0)
	w.play("P8.7: ErrAbsent", m, ahead+"c"+"ccc"+"cchch"+"c"+"tt")
	w.finish("P8.7: ErrAbsent", m, "t", api.ErrAbsent, [2]uint64{0, 10})
	w.linked("P8.7: ErrAbsent", []int{stays}, []int{stays})
	want(t, "P8.7: the record", w.Tx.Live(), []int{})

	// A height that may not be is found without an access: the step goes on with Quit.
	w = newWorld(t, 8, 1, 2, 9)
	w.put("b", 1, 2)
	w.hold(api.Entry{Name: "a"}, 1, 2)
	m = w.Pass(0)
	w.play("P8.7: ErrLevel", m, ahead+"c"+"ccc"+"cchch"+"tt")
	w.finish("P8.7: ErrLevel", m, "t", api.ErrLevel, [2]uint64{0, 10})

	// What was unlinked ahead of the error counts.
	w = newWorld(t, 8, 1, 2, 9)
	w.hold(api.Entry{Name: "b", Tall: 1}, 1, 2)
	w.put("a", 1, 2)
	w.finish("P8.7: an error behind one that went", w.Pass(0), ahead+"c"+"ccc"+out+"tl"+"c"+"ccc"+"cchch"+"c"+"ttt", api.ErrAbsent, [2]uint64{1, 10})

	// A slot that is freed while the walk stands at it: no access, so that the step goes on with Quit.
	w = newWorld(t, 8, 1, 2, 9)
	slot := w.put("a", 1, 2)
	m = w.Pass(0)
	w.play("P8.7: ErrSlot", m, ahead+"c")
	w.Cells.Free(slot)
	made, done := w.step(m)
	want(t, "P8.7: ErrSlot, and Quit's first step", []any{made, done, m.Code()}, []any{"tx", false, api.OK})
	w.finish("P8.7: ErrSlot", m, "tt", api.ErrSlot, [2]uint64{0, 10})

	// Quit is refused behind an error: that one is told.
	w = newWorld(t, 8, 1, 2, 9)
	w.hold(api.Entry{Name: "a", Tall: 1}, 1, 2)
	m = w.Pass(0)
	w.play("P8.7: an error ahead of a Quit that is refused", m, ahead+"c"+"ccc"+"cchch"+"c")
	w.Tx.Move(1, api.TxPreparing)
	w.finish("P8.7: an error ahead of a Quit that is refused", m, "t", api.ErrAbsent, [2]uint64{0, 10})
}

// Errors of the walk: where it stands at a slot, that is collected first; then Quit, then the error.
func TestPassWhereTheWalkFails(t *testing.T) {
	const ahead = "ttt" + "t" + "l" + "t" + "tttt" + "h"
	w := newWorld(t, 8, 2, 2, 9)
	slot := w.hold(api.Entry{Name: "a", Tall: 1}, 1, api.Infinity)
	stray := uint64(2 * (api.MaxSlots + 1 + 1)) // the end of bucket 1
	w.Cells.Store(slot, api.CellHash, stray)
	m := w.Pass(0)
	w.play("P8.7: ErrStray", m, ahead+"c"+"cc"+"tt")
	w.finish("P8.7: ErrStray", m, "t", api.ErrStray, [2]uint64{0, 10})

	// It is garbage: it goes, and is counted, ahead of the walk's error.
	w = newWorld(t, 8, 2, 2, 9)
	key := keyOf(w.Base, 0)
	slot = w.put(key, 1, 2)
	w.Cells.Store(slot, api.CellHash, stray)
	m = w.Pass(0)
	w.run(m)
	want(t, "P8.7: garbage where the walk fails", []any{m.Code(), m.Unlinked(), w.Limbo(), w.Tx.Live()}, []any{api.ErrStray, 1, 1, []int{}})

	// An error of the Collect there comes ahead of the walk's.
	w = newWorld(t, 8, 2, 2, 9)
	slot = w.hold(api.Entry{Name: key, Tall: 1}, 1, 2)
	w.Cells.Store(slot, api.CellHash, stray)
	m = w.Pass(0)
	w.run(m)
	want(t, "P8.7: both fail", m.Code(), api.ErrAbsent)

	// A link that was never written: the walk stands nowhere.
	w = newWorld(t, 8, 2, 2, 9)
	slot = w.put(key, 1, 2)
	w.Cells.Store(slot, api.CellHash, 0)
	w.finish("P8.7: ErrUnlinked", w.Pass(0), ahead+"c"+"ttt", api.ErrUnlinked, [2]uint64{0, 10})

	// A slot that was freed while it was linked: no access, so that the step goes on with Quit.
	w = newWorld(t, 8, 2, 2, 9)
	slot = w.put(key, 1, 2)
	w.Cells.Free(slot)
	m = w.Pass(0)
	w.play("P8.7: ErrSlot", m, ahead)
	made, done := w.step(m)
	want(t, "P8.7: ErrSlot, and Quit's first step", []any{made, done}, []any{"tx", false})
	w.finish("P8.7: ErrSlot", m, "tt", api.ErrSlot, [2]uint64{0, 10})
	want(t, "P8.7: the record", w.Tx.Live(), []int{})
}

func keyOf(b *version.Base, bucket int) string {
	for i := 0; ; i++ {
		if key := fmt.Sprint(i); b.Bucket(key) == bucket {
			return key
		}
	}
}

// An entry whose slot other hands have freed ends the Pass ahead of Open.
func TestPassWhereReclaimFails(t *testing.T) {
	w := newWorld(t, 8, 1, 2, 9)
	slots := w.limbo(9, 9)
	w.Cells.Free(slots[1])
	w.finish("P8.4: Reclaim is refused", w.Pass(0), "ttt"+"t"+"lc"+"l"+"x", api.ErrSlot, [2]uint64{0, 10})
	want(t, "P8.4: no record", w.Tx.Live(), []int{})
}

// Marked ones are passed by; what is put in behind the walk is not met.
func TestPassGoesBy(t *testing.T) {
	w := newWorld(t, 8, 1, 2, 9)
	one, two := w.put("a", 1, 2), w.put("b", 1, 2)
	remove := w.Hash.Remove(0, two)
	w.play("a mark", remove, "cc")
	m := w.Pass(0)
	w.play("P8.7: past a marked one", m, "ttt"+"t"+"l"+"t"+"tttt"+"h"+"c"+"c")
	fresh := w.put("c", 1, 2)
	w.run(m)
	want(t, "P8.7: past a marked one", []any{m.Code(), m.Unlinked(), w.claim(one), w.claim(two), w.claim(fresh)}, []any{api.OK, 1, 1, 0, 0})
}

// The floor is found once: what ends behind it stays, even if nobody could see it any more.
func TestPassKeepsItsFloor(t *testing.T) {
	w := newWorld(t, 8, 1, 4, 9)
	id, _ := w.begin() // 10
	slot := w.put("a", 3, 11)
	m := w.Pass(0)
	w.play("P8.7: the floor", m, "ttttt")
	w.leave(id)
	w.tick(20)
	w.run(m)
	want(t, "P8.7: the floor stays", []any{m.Floor(), m.Unlinked(), w.claim(slot), m.Code()}, []any{10, 0, 0, api.OK})
	again := w.Pass(0)
	w.run(again)
	want(t, "P8.7: another one's", []any{again.Floor(), again.Unlinked(), m.Floor(), m.Unlinked()}, []any{22, 1, 10, 0})
}

// One Pass over each bucket leaves no garbage in the indexes, and one round more frees it: where nobody is at work, whatever was left behind.
func TestGarbageGoes(t *testing.T) {
	for _, buckets := range []int{1, 3, 7} {
		w := newWorld(t, 60, buckets, 3, 9)
		stay, gone := 0, 0
		for i := range 40 {
			key := fmt.Sprint("key ", i%11)
			switch i % 4 {
			case 0:
				w.put(key, api.Infinity, []uint64{api.Infinity, word(2), 3}[i%3])
				gone++
			case 1:
				w.put(key, uint64(i%5), uint64(i%5+5))
				gone++
			case 2:
				w.put(key, 3, api.Infinity)
				stay++
			case 3:
				w.put(key, 3, 50) // not drawn
				stay++
			}
		}
		w.open(2)
		w.leave(1)
		w.leave(2)
		for range 2 {
			for bucket := range buckets {
				m := w.Pass(bucket)
				w.run(m)
				want(t, "P8.11: Pass", m.Code(), api.OK)
			}
			held := 0
			for bucket := range buckets {
				list, _ := w.Hash.List(bucket)
				for _, slot := range list {
					if begin, end, _ := w.Words(slot); begin == api.Infinity || end < 20 {
						t.Errorf("P8.11: a version from %d to %d is still linked", begin, end)
					}
				}
				n, _ := w.Hash.Held(bucket)
				held += n
			}
			row, _ := w.Order.Held(0)
			want(t, "P8.11: what is linked", []int{held, row, w.Unlinked()}, []int{stay, stay, gone})
		}
		w.amounts("P8.11: behind two rounds", 0, gone, gone)
		want(t, "P8.11: slots in use", []any{len(w.Cells.Live()), w.Tx.Live(), w.Misses()}, []any{stay, []int{}, 0})
	}
}
