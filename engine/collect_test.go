package engine_test

import (
	"fmt"
	"strings"
	"testing"

	"strata/api"
)

// bucketed is an engine of three buckets with a key in each.
func bucketed(t *testing.T, change func(c *api.Config)) (*world, [3]string) {
	t.Helper()
	c := api.Config{Slots: 40, Buckets: 3, TxSlots: 8, Sessions: 3, Clock: 1}
	change(&c)
	w := open(t, c)
	var keys [3]string
	for i := range 40 {
		keys[w.Base().Bucket(name(i))] = name(i)
	}
	for _, key := range keys {
		w.do(2, begin(si), insert(key, "0"), commit())
	}
	return w, keys
}

// spoil makes a version of garbage in the buckets of these keys.
func (w *world) spoil(keys ...string) {
	w.t.Helper()
	for _, key := range keys {
		w.do(2, begin(si), update(key, "1"), commit())
	}
}

func TestCollect(t *testing.T) {
	w, keys := bucketed(t, func(c *api.Config) {})
	w.spoil(keys[:]...)
	w.spoil(keys[1])
	// each session's hand begins at bucket 0 and goes round
	w.answers("P10.12: bucket 0", 0, collect(1), api.Answer{Count: 1})
	w.answers("P10.12: bucket 0, of another session", 1, collect(1), api.Answer{})
	w.answers("P10.12: bucket 1", 0, collect(1), api.Answer{Count: 2})
	w.spoil(keys[0])
	w.answers("P10.12: buckets 2 and 0", 0, collect(2), api.Answer{Count: 2})
	w.spoil(keys[:]...)
	w.answers("P10.12: all, from bucket 1 on", 0, collect(3), api.Answer{Count: 3})
	w.spoil(keys[1], keys[2], keys[0], keys[0])
	w.answers("P10.12: bucket 1 again", 0, collect(1), api.Answer{Count: 1})
	w.answers("P10.12: bucket 1, of the other session", 1, collect(1), api.Answer{})
	w.answers("P10.12: bucket 2, of the other session", 1, collect(1), api.Answer{Count: 1})
	w.answers("P10.12: bucket 0, of the other session", 1, collect(1), api.Answer{Count: 2})
	want(t, "P10.12: it has no transaction", w.Open(0), false)
	want(t, "P10.14: it tells nothing of it", len(w.History().Txns), 3+12)
}

// In the midst of a transaction a collect is a call like others; it takes away nothing that the transaction may see.
func TestCollectInTheMidst(t *testing.T) {
	w := open(t, roomy(), row("a", "1", 1))
	w.do(0, begin(full), get("a"))
	w.do(1, begin(si), update("a", "2"), commit())
	w.answers("P10.12: it is needed", 0, collect(1), api.Answer{})
	want(t, "P10.12: Open", w.Open(0), true)
	w.answers("P10.12: it is there", 0, get("a"), told(pair("a", "1")))
	w.do(0, abort())
	w.answers("P10.12: it is not needed", 0, collect(1), api.Answer{Count: 1})
}

// A collect that is refused: the hand stays, the count is told.
func TestCollectThatIsRefused(t *testing.T) {
	w, keys := bucketed(t, func(c *api.Config) { c.TxSlots = 2 })
	w.spoil(keys[:]...)
	w.do(1, begin(si))
	w.do(2, begin(si))
	w.answers("P10.12: no record", 0, collect(3), refused(api.ErrTxFull))
	w.answers("P10.12: no record, in a transaction", 1, collect(1), refused(api.ErrTxFull))
	want(t, "P10.12: a transaction goes on", w.Open(1), true)
	w.do(1, commit())
	w.do(2, commit())
	// the first bucket is done; then another session takes the last record
	w.start(0, collect(3))
	w.do(1, begin(si))
	for w.Base().Tx.Accesses(); len(w.Base().Tx.Live()) != 2; {
		w.step(0)
	}
	for len(w.Base().Tx.Live()) != 1 {
		w.step(0)
	}
	w.do(2, begin(si))
	w.rest(0)
	want(t, "P10.12: refused at the second", w.take(0), api.Answer{Code: api.ErrTxFull, Count: 1})
	w.do(1, commit())
	w.do(2, commit())
	w.answers("P10.12: it goes on there", 0, collect(1), api.Answer{Count: 1})
	w.answers("P10.12: and then", 0, collect(1), api.Answer{Count: 1})
	w.answers("P10.12: all round", 0, collect(1), api.Answer{})
}

func TestCollectAtTheEndOfTheClock(t *testing.T) {
	c := roomy()
	c.Clock = api.MaxTime - 3
	w := open(t, c, row("a", "1", 1))
	w.do(0, begin(si), update("a", "2"), commit())
	w.answers("P10.12: the last timestamp", 1, collect(1), api.Answer{Count: 1})
	w.answers("P10.12: no timestamp", 1, collect(1), refused(api.ErrClock))
	free, limbo := w.Free()
	want(t, "P10.12: what is in limbo stays there: the floor is no higher than its stamp", []int{free, limbo, len(w.Base().Tx.Live())}, []int{199, 0, 0})
}

// linked tells how many versions each bucket has.
func (w *world) linked() [3]int {
	var all [3]int
	for bucket := range all {
		slots, _ := w.Base().Hash.List(bucket)
		all[bucket] = len(slots)
	}
	return all
}

// sweeps is what is known of an engine's garbage, and of its sessions' hands.
type sweeps struct {
	*world
	coop    int
	garbage [3]int
	hands   [3]int
}

// ended tells that a session's transaction has ended.
func (x *sweeps) ended(s int) {
	x.t.Helper()
	for range x.coop {
		x.garbage[x.hands[s]] = 0
		x.hands[s] = (x.hands[s] + 1) % 3
	}
	right := [3]int{1 + x.garbage[0], 1 + x.garbage[1], 1 + x.garbage[2]}
	want(x.t, fmt.Sprintf("P10.13: Coop %d: what is linked", x.coop), x.linked(), right)
}

// Behind a transaction, whatever its end, the session sweeps Coop buckets from its hand on.
func TestSweep(t *testing.T) {
	for coop := range api.MaxCoop + 1 {
		w, keys := bucketed(t, func(c *api.Config) { c.Coop = coop })
		x := &sweeps{world: w, coop: coop, hands: [3]int{2: 3 * coop % 3}}
		fresh := [3]string{}
		for i := range 80 {
			if bucket := w.Base().Bucket(name(i)); name(i) != keys[bucket] {
				fresh[bucket] = name(i)
			}
		}
		for round := range 24 {
			bucket := round * round % 3
			w.do(0, begin(si), insert(fresh[bucket], ""))
			x.garbage[bucket]++
			switch round % 4 {
			case 0:
				w.do(0, abort())
			case 1:
				w.do(0, remove(fresh[bucket]), commit())
			case 2:
				w.code("P10.8", 0, insert(keys[bucket], ""), api.ErrDuplicate)
				x.garbage[bucket]++
				w.do(0, remove(fresh[bucket]), commit())
			case 3:
				w.do(1, begin(si), remove(keys[2]))
				w.code("P10.10", 0, remove(keys[2]), api.ErrConflict)
				x.ended(0)
				w.do(1, abort())
				x.ended(1)
				continue
			}
			x.ended(0)
		}
	}
}

// An error of the sweep is passed over, and the hand goes on.
func TestSweepThatIsRefused(t *testing.T) {
	w, keys := bucketed(t, func(c *api.Config) { c.TxSlots, c.Coop = 2, 1 })
	w.do(1, begin(si)) // it keeps the other record from being freed
	w.do(0, begin(si), update(keys[0], "1"))
	made := w.answers("P10.13", 0, commit(), stamped(w.Floor()+2))
	want(t, "P10.13: Floor, Free, a look at the limbo, Open", made[len(made)-6:], ts(4)+"l"+"t")
	w.do(1, commit())
	want(t, "P10.13: nothing is unlinked but by session 1", w.linked(), [3]int{1, 1, 1})
	w.spoil(keys[0], keys[1], keys[1])
	before := w.linked()
	w.do(0, begin(si), commit())
	after := w.linked()
	want(t, "P10.13: the hand is at bucket 1", []bool{before[0] == after[0], before[1] > after[1] && after[1] == 1, before[2] == after[2]}, []bool{true, true, true})
}

// The steps of the sweep are steps of the call; the session has its transaction till they are made.
func TestSweepIsPartOfTheCall(t *testing.T) {
	for coop := range api.MaxCoop + 1 {
		c := size()
		c.Coop = coop
		w := open(t, c)
		w.do(0, begin(si))
		w.start(0, commit())
		text := ""
		for w.Busy(0) {
			want(t, "P10.3: Open", w.Open(0), true)
			made, _ := w.step(0)
			text += made
		}
		pass := "ttttt" + "t" + "l" + "t" + "tttt" + "h" + "ttt"
		want(t, "P10.13: accesses", text, ts(7+closing+quitGo)+strings.Repeat(pass, coop))
		want(t, "P10.13: Open", []any{w.Open(0), w.take(0)}, []any{false, stamped(2)})
	}
}

// A collect whose Pass is refused in the midst, since a version was freed by hand under it, tells what was unlinked by then.
func TestCollectThatIsRefusedInTheMidst(t *testing.T) {
	w := open(t, roomy(), row("a", "1", 1), row("b", "1", 1))
	w.do(0, begin(si), remove("a"), remove("b"), commit())
	w.start(1, collect(1))
	for _, limbo := w.Free(); limbo == 0; _, limbo = w.Free() {
		w.step(1)
	}
	slots, _ := w.Base().Hash.List(0)
	for _, slot := range slots {
		w.Base().Cells.Free(slot)
	}
	done, _ := w.Run(1, 1000)
	want(t, "P10.12: refused in the midst", []any{done, w.take(1)}, []any{true, api.Answer{Code: api.ErrSlot, Count: 1}})
}
