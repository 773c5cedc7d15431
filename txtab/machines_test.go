package txtab_test

import (
	"fmt"
	"testing"

	"strata/api"
	"strata/txtab"
)

// free takes records out of use by the calls, whatever state they are in.
func (w *world) free(ids ...int) {
	w.t.Helper()
	for _, id := range ids {
		if s, _ := w.State(id); s == api.TxPreparing {
			w.move(id, api.TxAborted)
		}
		if s, _ := w.State(id); s != api.TxTerminated {
			w.move(id, api.TxTerminated)
		}
		want(w.t, "P6.7: Drop", w.Drop(id), api.OK)
	}
}

// fill fills places for dependents.
func (w *world) fill(on int, ids ...int) {
	w.t.Helper()
	for _, id := range ids {
		m := w.Depend(id, on)
		w.run(m)
		want(w.t, fmt.Sprintf("P6.10: Depend(%d, %d)", id, on), pair(m.Came(), m.Code()), pair(api.DepTaken, api.OK))
	}
}

// everyMachine has one of each, of a number; all steps of these but Floor's name it.
func everyMachine(w *world, id int) map[string]machine {
	return map[string]machine{
		"P6.8: Start": w.Start(id), "P6.9: Draw": w.Draw(id), "P6.11: Close": w.Close(id), "P6.13: Leave": w.Leave(id), "P6.13: Quit": w.Quit(id),
		"P6.10: Depend": w.Depend(id, 1), "P6.10: Depend on it": w.Depend(1, id), "P6.10: Depend of it on itself": w.Depend(id, id),
	}
}

func TestMachinesOfNoPlace(t *testing.T) {
	w := newWorld(t, 4, 3, 2)
	for _, id := range strange() {
		if id >= 1 && id <= 4 {
			continue
		}
		for name, m := range everyMachine(w, id) {
			w.refused(fmt.Sprintf("%s, %d", name, id), m, api.ErrTx)
		}
	}
	for id := 1; id <= 4; id++ { // of records in use, and of those that are not
		w.refused("P6.10: Depend on itself", w.Depend(id, id), api.ErrArg)
	}
}

func TestMachinesOfRecordsNotInUse(t *testing.T) {
	w := newWorld(t, 3, 7, 1)
	start := w.Start(2)
	w.play("P6.8: Start(2)", start, nothing())
	w.last("P6.8: Start(2)", start, misses(), api.ErrTx, 0)
	for _, id := range []int{2, 3} {
		w.last("P6.9: Draw", w.Draw(id), misses(), api.ErrTx, 0)
		w.last("P6.10: Depend", w.Depend(id, 1), misses(), api.ErrTx, 0)
		w.last("P6.11: Close", w.Close(id), misses(), api.ErrTx, 0)
		w.last("P6.13: Leave", w.Leave(id), misses(), api.ErrTx, 0)
		w.last("P6.13: Quit", w.Quit(id), misses(), api.ErrTx, 0)
		m := w.Depend(1, id)
		w.play("P6.10: Depend on it", m, changes("1 word=1"), misses())
		w.last("P6.10: Depend on it", m, changes("1 word=0"), api.ErrTx, 0)
	}
	want(t, "P6.10: neither is in use", w.counts(func() { w.last("", w.Depend(2, 3), misses(), api.ErrTx, 0) }), [2]int{1, 1})
}

// Arguments are looked at at the first step, as things are then.
func TestArgumentsAreLookedAtAtTheFirstStep(t *testing.T) {
	w := newWorld(t, 2, 5, 0)
	start, draw, depend := w.Start(1), w.Draw(1), w.Depend(2, 1)
	w.Tick()
	w.Open(api.TxInfo{})
	w.Open(api.TxInfo{})
	w.finish("P6.8: Start", start, 4, api.OK, 7)
	w.finish("P6.9: Draw", draw, 3, api.OK, 8)
	w.finish("P6.10: Depend", depend, 3, api.OK, api.DepTaken)
	floor := w.Floor()
	w.Announce(1, 2)
	w.finish("P6.12: Floor", floor, 3, api.OK, 2)
}

func TestStart(t *testing.T) {
	w := newWorld(t, 2, 10, 2)
	m := w.Start(2)
	w.play("P6.8: Start(2)", m, nothing(), changes("2 announced=11"))
	w.Tick()
	w.Tick()
	w.play("P6.8: Start(2)", m, changes("clock=13"))
	w.Announce(2, 0)
	w.last("P6.8: Start(2)", m, changes("2 announced=13"), api.OK, 13)
	w.finish("P6.8: Start(1)", w.Start(1), 4, api.OK, 14)
	w.finish("P6.8: Start(1) again", w.Start(1), 4, api.OK, 15)
	want(t, "P6.8: announced", pair(w.Announced(1)), pair(15, api.OK))
	m = w.Start(1) // the clock is read at the first step
	w.Tick()
	w.play("P6.8: Start(1)", m, nothing())
	w.Tick()
	w.play("P6.8: Start(1)", m, changes("1 announced=17"), changes("clock=18"))
}

func TestStartAtTheEndOfTheClock(t *testing.T) {
	w := newWorld(t, 1, api.MaxTime-1, 1)
	m := w.Start(1)
	w.play("P6.8: Start", m, nothing(), changes(fmt.Sprint("1 announced=", api.MaxTime)), changes(fmt.Sprint("clock=", api.MaxTime)))
	w.last("P6.8: Start", m, nothing(), api.OK, api.MaxTime)
	w.Announce(1, 0)
	m = w.Start(1)
	w.play("P6.8: Start at MaxTime", m, nothing(), changes(fmt.Sprint("1 announced=", api.MaxTime)))
	w.last("P6.8: Start at MaxTime", m, nothing(), api.ErrClock, 0)
	x := newWorld(t, 1, api.MaxTime-1, 1)
	m = x.Start(1)
	x.play("P6.8: Start", m, nothing(), changes(fmt.Sprint("1 announced=", api.MaxTime)))
	x.Tick() // another one takes the last timestamp
	x.last("P6.8: Start", m, nothing(), api.ErrClock, 0)
}

func TestStartOfOneThatGoes(t *testing.T) {
	w := newWorld(t, 1, 0, 1)
	m := w.Start(1)
	w.play("P6.8: Start", m, nothing(), changes("1 announced=1"), changes("clock=1"))
	w.free(1)
	w.last("P6.8: Start", m, misses(), api.ErrTx, 0)
	want(t, "P6.5: nothing is announced", pair(w.Announced(1)), pair(0, api.OK))
}

func TestDraw(t *testing.T) {
	w := newWorld(t, 2, 10, 2)
	m := w.Draw(1)
	w.play("P6.9: Draw(1)", m, nothing(), changes("clock=11"))
	w.last("P6.9: Draw(1)", m, changes("1 end=11"), api.OK, 11)
	w.last("P6.9: Draw(1), when it is drawn", w.Draw(1), nothing(), api.OK, 11)

	a, b := w.Draw(2), w.Draw(2) // two workers: the first puts its own, the second finds it
	w.play("P6.9: a", a, nothing())
	w.play("P6.9: b", b, nothing(), changes("clock=12"))
	w.play("P6.9: a", a, changes("clock=13"))
	w.last("P6.9: a", a, changes("2 end=13"), api.OK, 13)
	w.play("P6.9: b", b, nothing())
	w.last("P6.9: b", b, nothing(), api.OK, 13)
	for state := 1; state <= 5; state++ { // the state is not asked
		x := newWorld(t, 1, 4, 1)
		x.move(1, to(state)...)
		x.finish(fmt.Sprintf("P6.9: Draw in state %d", state), x.Draw(1), 3, api.OK, 5)
		want(t, "P6.9: the state", pair(x.State(1)), pair(state, api.OK))
	}
}

func TestDrawAtTheEndOfTheClock(t *testing.T) {
	w := newWorld(t, 2, api.MaxTime, 2)
	m := w.Draw(1)
	w.play("P6.9: Draw at MaxTime", m, nothing())
	w.last("P6.9: Draw at MaxTime", m, nothing(), api.ErrClock, 0)
	want(t, "P6.9: the end", pair(w.End(1)), pair(0, api.OK))
	x := newWorld(t, 1, api.MaxTime-1, 1)
	a, b := x.Draw(1), x.Draw(1)
	x.play("P6.9: a", a, nothing())
	x.finish("P6.9: the last timestamp", b, 3, api.OK, api.MaxTime)
	x.last("P6.9: another Draw does not find it by itself", a, nothing(), api.ErrClock, 0)
	x.last("P6.9: one that begins now does", x.Draw(1), nothing(), api.OK, api.MaxTime)
}

func TestDrawOfOneThatGoes(t *testing.T) {
	for steps := 1; steps <= 3; steps++ {
		w := newWorld(t, 1, 0, 1)
		m := w.Draw(1)
		w.play("P6.9: Draw", m, []scene{nothing(), changes("clock=1")}[:min(steps, 2)]...)
		if steps == 3 {
			w.run(w.Draw(1))
			w.play("P6.9: Draw", m, nothing())
		}
		w.free(1)
		if steps == 1 {
			w.play("P6.9: Draw, which ticks all the same", m, changes("clock=1"))
		}
		w.last("P6.9: Draw", m, misses(), api.ErrTx, 0)
	}
}

func TestDepend(t *testing.T) {
	w := newWorld(t, 4, 0, 4)
	m := w.Depend(2, 1)
	w.play("P6.10: Depend(2, 1)", m, changes("2 word=1"), nothing())
	w.last("P6.10: Depend(2, 1)", m, changes("1 place 1=2"), api.OK, api.DepTaken)
	m = w.Depend(3, 1)
	w.play("P6.10: Depend(3, 1)", m, changes("3 word=1"), nothing(), nothing())
	w.last("P6.10: Depend(3, 1)", m, changes("1 place 2=3"), api.OK, api.DepTaken)
	m = w.Depend(2, 1)
	w.play("P6.10: Depend(2, 1) again", m, changes("2 word=2"), nothing())
	w.last("P6.10: Depend(2, 1) again", m, changes("2 word=1"), api.OK, api.DepTaken)
	m = w.Depend(3, 1)
	w.play("P6.10: Depend(3, 1) again", m, changes("3 word=2"), nothing(), nothing())
	w.last("P6.10: Depend(3, 1) again", m, changes("3 word=1"), api.OK, api.DepTaken)
	w.finish("P6.10: Depend(2, 3)", w.Depend(2, 3), 3, api.OK, api.DepTaken)
	w.finish("P6.10: Depend(1, 2), in a ring", w.Depend(1, 2), 3, api.OK, api.DepTaken)
	want(t, "P6.6: Waits(2)", triple(w.Waits(2)), triple(2, 0, api.OK))
}

// Another one takes the empty place first.
func TestDependThatComesTooLate(t *testing.T) {
	w := newWorld(t, 3, 0, 3)
	m := w.Depend(2, 1)
	w.play("P6.10: Depend(2, 1)", m, changes("2 word=1"), nothing())
	w.fill(1, 3)
	w.play("P6.10: Depend(2, 1), too late", m, nothing(), nothing(), nothing())
	w.last("P6.10: Depend(2, 1)", m, changes("1 place 2=2"), api.OK, api.DepTaken)

	m = w.Depend(3, 2) // the same place is read again: it is closed now
	w.play("P6.10: Depend(3, 2)", m, changes("3 word=2"), nothing())
	w.move(2, api.TxAborted)
	w.run(w.Close(2))
	w.play("P6.10: Depend(3, 2), too late", m, nothing(), nothing(), changes("3 word=1"))
	w.last("P6.10: Depend(3, 2)", m, nothing(), api.OK, api.DepAborted)

	a, b := w.Depend(1, 3), w.Depend(1, 3) // two of one record: the place holds its number when it is read again
	w.play("P6.10: a", a, changes("1 word=1"), nothing())
	w.play("P6.10: b", b, changes("1 word=2"), nothing())
	w.last("P6.10: a", a, changes("3 place 1=1"), api.OK, api.DepTaken)
	w.play("P6.10: b", b, nothing(), nothing())
	w.last("P6.10: b", b, changes("1 word=1"), api.OK, api.DepTaken)
}

func TestDependWithoutRoom(t *testing.T) {
	w := newWorld(t, 11, 0, 11)
	for i := 2; i <= 9; i++ {
		w.finish("P6.10: Depend", w.Depend(i, 1), i+1, api.OK, api.DepTaken)
	}
	for range 2 {
		m := w.Depend(10, 1)
		w.play("P6.10: all places are taken", m, changes("10 word=1"), nothing(), nothing(), nothing(), nothing(), nothing(), nothing(), nothing(), nothing())
		w.last("P6.10: all places are taken", m, changes("10 word=0"), api.OK, api.DepFull)
	}
	w.finish("P6.10: the last place holds it", w.Depend(9, 1), 10, api.OK, api.DepTaken)
	want(t, "P6.6: Waits(9)", triple(w.Waits(9)), triple(1, 0, api.OK))
	x := newWorld(t, 11, 0, 11)
	x.fill(1, 2, 3, 4, 5, 6, 7, 8)
	late := x.Depend(11, 1)
	x.play("P6.10: the last place", late, changes("11 word=1"), nothing(), nothing(), nothing(), nothing(), nothing(), nothing(), nothing(), nothing())
	x.fill(1, 9)
	x.play("P6.10: the last place, too late", late, nothing(), nothing())
	x.last("P6.10: the last place, too late", late, changes("11 word=0"), api.OK, api.DepFull)
}

func TestDependOnOneThatIsClosed(t *testing.T) {
	for _, c := range []struct {
		fate, then int
		came       uint64
	}{{api.TxCommitted, 0, api.DepCommitted}, {api.TxAborted, 0, api.DepAborted}, {api.TxCommitted, api.TxTerminated, api.DepGone}, {api.TxAborted, api.TxTerminated, api.DepGone}} {
		w := newWorld(t, 4, 0, 4)
		w.fill(1, 3)
		w.move(1, api.TxPreparing, c.fate)
		w.run(w.Close(1))
		if c.then != 0 {
			w.move(1, c.then)
		}
		what := fmt.Sprintf("P6.10: Depend on one of state %d, %d", c.fate, c.then)
		m := w.Depend(2, 1)
		w.play(what, m, changes("2 word=1"), nothing(), changes("2 word=0"))
		w.last(what, m, nothing(), api.OK, c.came)
	}
}

// The state is asked when the place was found closed: it may have changed since, and the place may have another record.
func TestDependAsksTheStateLast(t *testing.T) {
	found := func() (*world, *txtab.Depend) {
		w := newWorld(t, 2, 0, 2)
		w.move(1, api.TxPreparing, api.TxCommitted)
		w.run(w.Close(1))
		m := w.Depend(2, 1)
		w.play("P6.10: Depend(2, 1)", m, changes("2 word=1"), nothing(), changes("2 word=0"))
		return w, m
	}
	w, m := found()
	w.move(1, api.TxTerminated)
	w.last("P6.10: it has terminated meanwhile", m, nothing(), api.OK, api.DepGone)
	w, m = found()
	w.free(1)
	w.last("P6.10: it has gone meanwhile", m, misses(), api.ErrTx, 0)
	want(t, "P6.10: nothing is open", triple(w.Waits(2)), triple(0, 0, api.OK))
	for _, state := range []int{api.TxActive, api.TxPreparing} {
		w, m = found()
		w.free(1)
		w.Open(api.TxInfo{})
		w.move(1, to(state)...)
		w.last(fmt.Sprintf("P6.10: the state is %d", state), m, nothing(), api.OK, api.DepNone)
	}
}

// What is waited for, or who waits, goes while Depend is at work.
func TestDependOfOneThatGoes(t *testing.T) {
	begun := func(steps int) (*world, *txtab.Depend) {
		w := newWorld(t, 3, 0, 3)
		m := w.Depend(2, 1)
		w.play("P6.10: Depend(2, 1)", m, []scene{changes("2 word=1"), nothing()}[:steps]...)
		return w, m
	}
	for steps := 1; steps <= 2; steps++ { // ahead of the place's read, and of its swap
		w, m := begun(steps)
		w.free(1)
		w.play("P6.10: Depend(2, 1), when 1 goes", m, misses())
		w.last("P6.10: Depend(2, 1), when 1 goes", m, changes("2 word=0"), api.ErrTx, 0)
		w, m = begun(steps)
		w.free(1, 2)
		w.play("P6.10: Depend(2, 1), when both go", m, misses())
		w.last("P6.10: Depend(2, 1), when both go", m, misses(), api.ErrTx, 0)
	}
	w, m := begun(2)
	w.free(2)
	w.last("P6.10: Depend(2, 1), when 2 goes", m, changes("1 place 1=2"), api.OK, api.DepTaken)
	w, _ = begun(0)
	w.fill(1, 2)
	m = w.Depend(2, 1)
	w.play("P6.10: Depend(2, 1) again", m, changes("2 word=2"), nothing())
	w.free(2)
	w.last("P6.10: Depend(2, 1) again, when 2 goes", m, misses(), api.ErrTx, 0)
	w, _ = begun(0)
	w.move(1, api.TxAborted)
	w.run(w.Close(1))
	m = w.Depend(2, 1)
	w.play("P6.10: Depend(2, 1), closed", m, changes("2 word=1"), nothing())
	w.free(2)
	w.last("P6.10: Depend(2, 1), closed, when 2 goes", m, misses(), api.ErrTx, 0)
	w = newWorld(t, 10, 0, 10)
	w.fill(1, 2, 3, 4, 5, 6, 7, 8, 9)
	m = w.Depend(10, 1)
	w.play("P6.10: Depend(10, 1)", m, changes("10 word=1"), nothing(), nothing(), nothing(), nothing(), nothing(), nothing(), nothing(), nothing())
	w.free(10)
	w.last("P6.10: Depend(10, 1), without room, when 10 goes", m, misses(), api.ErrTx, 0)
}

func TestClose(t *testing.T) {
	for _, c := range []struct {
		fate   int
		two    string
		aborts int
	}{{api.TxCommitted, "2 word=0", 0}, {api.TxAborted, fmt.Sprint("2 word=", uint64(1)<<32), 1}} {
		w := newWorld(t, 3, 0, 3)
		w.fill(1, 2, 3)
		w.fill(2, 3)
		w.move(1, api.TxPreparing, c.fate)
		m := w.Close(1)
		what := fmt.Sprintf("P6.11: Close in state %d", c.fate)
		w.play(what, m, nothing(), nothing(), changes("1 place 1=closed"), changes(c.two), nothing(), changes("1 place 2=closed"))
		made := w.run(m)
		want(t, what+": the other steps", made, 1+2*6)
		want(t, what, []any{m.Code(), m.Told()}, []any{api.OK, 2})
		want(t, what+": Waits(3)", triple(w.Waits(3)), triple(1, c.aborts, api.OK))
		for _, place := range w.record(1).Places {
			want(t, what+": a place", place, closedPlace)
		}
		w.rests(what, m)
		w.finish(what+", again", w.Close(1), 9, api.OK, 0)
	}
}

func TestCloseOfOneThatIsNotDecided(t *testing.T) {
	for _, state := range []int{api.TxActive, api.TxPreparing, api.TxTerminated} {
		w := newWorld(t, 2, 0, 2)
		w.fill(1, 2)
		w.move(1, to(state)...)
		w.last(fmt.Sprintf("P6.11: Close in state %d", state), w.Close(1), nothing(), api.ErrState, 0)
	}
	for _, state := range []int{api.TxCommitted, api.TxAborted} {
		w := newWorld(t, 1, 0, 1)
		w.move(1, to(state)...)
		w.finish(fmt.Sprintf("P6.11: Close in state %d, of nobody", state), w.Close(1), 17, api.OK, 0)
	}
}

// Whether it has aborted is what the first step found.
func TestCloseGoesByTheFirstStep(t *testing.T) {
	w := newWorld(t, 2, 0, 2)
	w.fill(1, 2)
	w.move(1, api.TxAborted)
	m := w.Close(1)
	w.play("P6.11: Close", m, nothing())
	w.move(1, api.TxTerminated)
	w.run(m)
	want(t, "P6.11: Close", []any{m.Code(), m.Told()}, []any{api.OK, 1})
	want(t, "P6.11: Waits", triple(w.Waits(2)), triple(0, 1, api.OK))
}

// A place changes between its read and its swap.
func TestCloseReadsAgain(t *testing.T) {
	w := newWorld(t, 4, 0, 4)
	w.move(1, api.TxPreparing, api.TxCommitted)
	m := w.Close(1)
	w.play("P6.11: Close", m, nothing(), nothing())
	w.fill(1, 2)
	w.play("P6.11: Close, too late", m, nothing(), nothing(), changes("1 place 1=closed"), changes("2 word=0"))

	w = newWorld(t, 3, 0, 3) // two Closes: a number is told once
	w.fill(1, 2, 3)
	w.move(1, api.TxAborted)
	one, other := w.Close(1), w.Close(1)
	w.play("P6.11: Close", one, nothing(), nothing(), changes("1 place 1=closed"))
	w.play("P6.11: another Close", other, nothing(), nothing(), nothing())
	w.play("P6.11: Close", one, changes(fmt.Sprint("2 word=", uint64(1)<<32)), nothing())
	w.play("P6.11: another Close", other, changes("1 place 2=closed"))
	w.play("P6.11: Close, too late", one, nothing(), nothing(), nothing())
	w.play("P6.11: another Close", other, changes(fmt.Sprint("3 word=", uint64(1)<<32)))
	w.run(one)
	w.run(other)
	want(t, "P6.11: Told", []int{one.Told(), other.Told()}, []int{1, 1})
}

func TestCloseTellsWhoIsThere(t *testing.T) {
	w := newWorld(t, 10, 0, 10)
	w.fill(1, 2, 3, 4, 5, 6, 7, 8, 9)
	w.free(2, 5, 9)
	w.move(1, api.TxAborted)
	m := w.Close(1)
	w.play("P6.11: Close", m, nothing(), nothing(), changes("1 place 1=closed"), misses(), nothing(), changes("1 place 2=closed"), changes(fmt.Sprint("3 word=", uint64(1)<<32)))
	made := w.counts(func() { w.run(m) })
	want(t, "P6.11: the other accesses and misses", made, [2]int{6 * 3, 2})
	want(t, "P6.11: Close", []any{m.Code(), m.Told()}, []any{api.OK, 5})
	w.rests("P6.11: Close", m)
	w.Open(api.TxInfo{}) // 2, 5, 9 again: they were not told
	w.Open(api.TxInfo{})
	w.Open(api.TxInfo{})
	for id, right := range map[int]uint64{2: 0, 5: 0, 9: 0, 3: 1 << 32, 4: 1 << 32, 8: 1 << 32} {
		want(t, fmt.Sprintf("P6.11: the word of %d", id), w.record(id).Word, right)
	}
}

func TestCloseOfOneThatGoes(t *testing.T) {
	for steps := 1; steps <= 3; steps++ {
		w := newWorld(t, 2, 0, 2)
		w.fill(1, 2)
		w.move(1, api.TxAborted)
		m := w.Close(1)
		w.play("P6.11: Close", m, []scene{nothing(), nothing(), changes("1 place 1=closed")}[:steps]...)
		w.free(1)
		if steps == 3 { // what it has taken from the place it tells
			w.play("P6.11: Close", m, changes(fmt.Sprint("2 word=", uint64(1)<<32)))
		}
		w.last("P6.11: Close", m, misses(), api.ErrTx, 0)
	}
}

// The word goes round: what falls below nothing grows to the top, and never loses the other half's count.
func TestWordsGoRound(t *testing.T) {
	for _, c := range []struct {
		word      uint64
		fate      int
		committed uint64
	}{{0, api.TxCommitted, 1<<64 - 1}, {0, api.TxAborted, 1<<32 - 1}, {1<<64 - 1, api.TxAborted, 1<<32 - 2}, {1 << 32, api.TxCommitted, 1<<32 - 1}} {
		w := newWorld(t, 2, 0, 2)
		w.fill(1, 2)
		w.SetWord(2, c.word)
		w.move(1, api.TxPreparing, c.fate)
		w.run(w.Close(1))
		want(t, fmt.Sprintf("P6.6: the word %x in state %d", c.word, c.fate), w.record(2).Word, c.committed)
	}
	w := newWorld(t, 2, 0, 2)
	w.SetWord(2, 1<<64-1)
	w.fill(1, 2)
	want(t, "P6.6: one more than the greatest word", w.record(2).Word, 0)
}

func TestFloor(t *testing.T) {
	w := newWorld(t, 4, 20, 3)
	w.finish("P6.12: Floor, nothing announced", w.Floor(), 5, api.OK, 21)
	for _, c := range []struct {
		announced [3]uint64
		right     uint64
	}{{[3]uint64{5, 0, 7}, 5}, {[3]uint64{9, 8, 7}, 7}, {[3]uint64{0, 0, 21}, 21}, {[3]uint64{0, 22, 0}, 21}, {[3]uint64{1, 0, 30}, 1}, {[3]uint64{0, 20, 0}, 20}} {
		for i, a := range c.announced {
			w.Announce(i+1, a)
		}
		w.finish(fmt.Sprintf("P6.12: Floor, %v announced", c.announced), w.Floor(), 5, api.OK, c.right)
		_, f := w.Horizon()
		want(t, fmt.Sprintf("P6.12: Horizon, %v announced", c.announced), f, c.right)
	}
	want(t, "P6.12: no misses", w.Misses(), 0)
	one := newWorld(t, 1, api.MaxTime, 0)
	one.finish("P6.12: Floor of one place, at the clock's end", one.Floor(), 2, api.OK, api.MaxTime+1)
	big := newWorld(t, 256, 9, 256)
	big.Announce(256, 4)
	big.finish("P6.12: Floor of 256 places", big.Floor(), 257, api.OK, 4)
	big.Announce(1, 3)
	big.finish("P6.12: Floor of 256 places", big.Floor(), 257, api.OK, 3)
}

// Each place is read at a step of its own, in the order of the places, behind the clock.
func TestFloorStepByStep(t *testing.T) {
	w := newWorld(t, 3, 5, 3)
	m := w.Floor()
	w.play("P6.12: Floor", m, nothing())
	w.Tick() // comes too late
	w.Announce(1, 4)
	w.play("P6.12: Floor", m, nothing())
	w.Announce(1, 1) // too late
	w.Announce(2, 3)
	w.play("P6.12: Floor", m, nothing())
	w.Announce(2, 0)
	w.Announce(3, 6)
	w.last("P6.12: Floor", m, nothing(), api.OK, 3)
	w.Announce(1, 0)
	m = w.Floor()
	w.play("P6.12: Floor", m, nothing(), nothing(), nothing())
	w.Announce(3, 0)
	w.Tick()
	w.last("P6.12: Floor", m, nothing(), api.OK, 7)
}

func TestLeave(t *testing.T) {
	w := newWorld(t, 3, 5, 3)
	w.Announce(2, 4)
	m := w.Leave(2)
	w.play("P6.13: Leave", m, changes("2 state=5"), changes("2 announced=0"))
	w.Tick()
	w.play("P6.13: Leave", m, nothing())
	w.Tick()
	w.last("P6.13: Leave", m, changes("waiting=[[2 6]] 2 retired=true"), api.OK, 0)
	w.last("P6.13: Leave again", w.Leave(2), nothing(), api.ErrMove, 0)
	w.move(1, api.TxPreparing)
	w.last("P6.13: Leave from Preparing", w.Leave(1), nothing(), api.ErrMove, 0)
	w.move(1, api.TxCommitted)
	w.finish("P6.13: Leave from Committed", w.Leave(1), 4, api.OK, 0)
	w.move(3, api.TxAborted)
	w.finish("P6.13: Leave from Aborted", w.Leave(3), 4, api.OK, 0)
	want(t, "P6.13: those that wait", w.Inside().Waiting, [][2]uint64{{2, 6}, {1, 7}, {3, 7}})
}

func TestLeaveOfOneThatGoes(t *testing.T) {
	for steps := 1; steps <= 3; steps++ {
		w := newWorld(t, 1, 5, 1)
		m := w.Leave(1)
		w.play("P6.13: Leave", m, []scene{changes("1 state=5"), nothing(), nothing()}[:steps]...)
		w.free(1)
		if steps == 2 {
			w.play("P6.13: Leave", m, nothing())
		}
		w.last("P6.13: Leave", m, misses(), api.ErrTx, 0)
	}
	w := newWorld(t, 1, 5, 1)
	m := w.Leave(1)
	w.play("P6.13: Leave", m, changes("1 state=5"), nothing(), nothing())
	want(t, "P6.7: Retire", w.Retire(1, 0), api.OK)
	w.last("P6.13: Leave of one that another retires", m, nothing(), api.ErrState, 0)
}

func TestQuit(t *testing.T) {
	w := newWorld(t, 3, 5, 2)
	w.Announce(2, 4)
	m := w.Quit(2)
	w.play("P6.13: Quit", m, changes("2 state=5"), changes("2 announced=0"))
	w.last("P6.13: Quit", m, changes("free=[3 2] 2 info={0 0} 2 state=0"), api.OK, 0)
	w.last("P6.13: Quit again", w.Quit(2), misses(), api.ErrTx, 0)
	w.move(1, api.TxPreparing)
	w.last("P6.13: Quit from Preparing", w.Quit(1), nothing(), api.ErrMove, 0)
	w.move(1, api.TxAborted)
	w.finish("P6.13: Quit from Aborted", w.Quit(1), 3, api.OK, 0)
	want(t, "P6.13: free", []any{w.Inside().Free, w.Waiting(), len(w.Live())}, []any{[]int{3, 2, 1}, 0, 0})
	for steps := 1; steps <= 2; steps++ {
		x := newWorld(t, 1, 5, 1)
		m = x.Quit(1)
		x.play("P6.13: Quit", m, []scene{changes("1 state=5"), nothing()}[:steps]...)
		x.free(1)
		x.last("P6.13: Quit of one that goes", m, misses(), api.ErrTx, 0)
	}
	x := newWorld(t, 1, 5, 1)
	m = x.Quit(1)
	x.play("P6.13: Quit", m, changes("1 state=5"), nothing())
	x.Retire(1, 0)
	x.last("P6.13: Quit of one that another retires", m, nothing(), api.ErrState, 0)
}

// The chapter's example.
func TestExample(t *testing.T) {
	w := newWorld(t, 2, 10, 2)
	want(t, "Open", pair(w.Open(api.TxInfo{})), pair(0, api.ErrTxFull))
	m := w.Start(1)
	w.play("Start(1)", m, nothing(), changes("1 announced=11"), changes("clock=11"))
	w.last("Start(1)", m, nothing(), api.OK, 11)
	m = w.Start(2)
	w.play("Start(2)", m, nothing(), changes("2 announced=12"))
	w.finish("Floor", w.Floor(), 3, api.OK, 11)
	w.play("Start(2)", m, changes("clock=12"))
	w.last("Start(2)", m, nothing(), api.OK, 12)
	w.move(1, api.TxPreparing)
	a, b := w.Draw(1), w.Draw(1)
	w.play("Draw(1)", a, nothing())
	w.play("Draw(1), the other", b, nothing())
	w.play("Draw(1)", a, changes("clock=13"))
	w.play("Draw(1), the other", b, changes("clock=14"))
	w.last("Draw(1)", a, changes("1 end=13"), api.OK, 13)
	w.play("Draw(1), the other", b, nothing())
	w.last("Draw(1), the other", b, nothing(), api.OK, 13)
	w.finish("Depend(2, 1)", w.Depend(2, 1), 3, api.OK, api.DepTaken)
	want(t, "Waits(2)", triple(w.Waits(2)), triple(1, 0, api.OK))
	w.move(1, api.TxAborted)
	w.finish("Close(1)", w.Close(1), 18, api.OK, 1)
	want(t, "Waits(2)", triple(w.Waits(2)), triple(0, 1, api.OK))
	w.finish("Leave(1)", w.Leave(1), 4, api.OK, 0)
	want(t, "the record", []any{w.record(1).State, w.record(1).Announced, w.Inside().Waiting}, []any{api.TxTerminated, 0, [][2]uint64{{1, 14}}})
	w.finish("Floor", w.Floor(), 3, api.OK, 12)
	want(t, "Free(12)", pair(w.Free(12)), pair(false, api.OK))
	w.move(2, api.TxAborted)
	w.finish("Leave(2)", w.Leave(2), 4, api.OK, 0)
	w.finish("Floor", w.Floor(), 3, api.OK, 15)
	for _, right := range []bool{true, true, false} {
		want(t, "Free(15)", pair(w.Free(15)), pair(right, api.OK))
	}
	want(t, "Open", pair(w.Open(api.TxInfo{})), pair(1, api.OK))
	want(t, "misses", w.Misses(), 0)
}
