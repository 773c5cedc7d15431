package engine_test

import (
	"fmt"
	"math/rand"
	"os"
	"runtime/debug"
	"slices"
	"testing"

	"strata/api"
	"strata/engine"
	"strata/sched"
)

// The tests make many things that live shortly: collecting them that often would take most of the time.
func TestMain(m *testing.M) {
	debug.SetGCPercent(800)
	os.Exit(m.Run())
}

// wild makes up a call of any kind, mostly one that may not be.
func (c chance) wild() api.Call {
	number := func() int { return strange()[c.Intn(len(strange()))] }
	text := func() string { return texts()[c.Intn(len(texts()))] }
	kind := c.Intn(11)
	if c.Intn(10) == 0 {
		kind = number()
	}
	return api.Call{Kind: kind, Iso: number(), Key: text(), High: text(), Data: text(), Count: number()}
}

// Whatever is asked in whatever order, nothing panics, and what is not there stays away.
func TestAnyArguments(t *testing.T) {
	for seed := range int64(60) {
		c := chance{rand.New(rand.NewSource(seed)), someKeys()}
		config := c.config()
		w := open(t, config, c.someRows(config)...)
		for range 300 {
			s := c.Intn(config.Sessions)
			if c.Intn(6) == 0 {
				s = strange()[c.Intn(len(strange()))]
			}
			n := strange()[c.Intn(len(strange()))]
			there := s >= 0 && s < config.Sessions
			switch c.Intn(9) {
			case 0:
				e := w.Start(s, c.wild())
				want(t, "ErrSession", e == api.ErrSession, !there)
			case 1:
				_, e := w.Step(s)
				want(t, "ErrSession", e == api.ErrSession, !there)
			case 2:
				_, e := w.Run(s, min(n, 3000))
				want(t, "ErrSession", e == api.ErrSession, !there)
			case 3:
				_, e := w.Take(s)
				want(t, "ErrSession", e == api.ErrSession, !there)
			case 4:
				_, e := w.Calls(s, c.wild(), c.call(c.Intn(2) == 0, config.Buckets, []int{1, 2, 3, 4}), c.wild())
				want(t, "ErrSession", e == api.ErrSession, !there)
			case 5:
				w.Busy(s)
				w.Open(s)
				w.Commits(n)
			case 6:
				w.Rows()
				w.History()
				w.Free()
				w.Floor()
				w.Accesses()
			default:
				if there {
					w.Calls(s, c.call(w.Open(s), config.Buckets, []int{1, 2, 3, 4}))
				}
			}
			if t.Failed() {
				t.Fatalf("seed %d", seed)
			}
		}
		want(t, "P10.19: Misses", w.Base().Misses(), 0)
	}
}

// meddle breaks the rules: it does something to the base by hand.
func (c chance) meddle(w *world, config api.Config) {
	b := w.Base()
	slot, id := 1+c.Intn(config.Slots), 1+c.Intn(config.TxSlots)
	words := []uint64{0, 3, 1 << 62, api.Infinity, word(1), word(2), word(id), 1<<63 + 1<<62, 1<<64 - 1}
	switch c.Intn(9) {
	case 0:
		b.Cells.Free(slot)
	case 1, 2:
		b.Cells.Store(slot, c.Intn(3), words[c.Intn(len(words))])
	case 3:
		b.Tx.Move(id, 1+c.Intn(5))
	case 4:
		b.Tx.Drop(id)
	case 5:
		b.Tx.Retire(id, uint64(c.Intn(20)))
	case 6:
		b.Tx.Free(uint64(c.Intn(100)))
	case 7:
		b.Tx.Open(api.TxInfo{})
	case 8:
		b.Cells.Alloc(api.Entry{Name: c.key(), Tall: 1}, 1, api.Infinity)
	}
}

// Where the rules are broken from outside nothing panics, and a step makes one access all the same.
func TestMeddling(t *testing.T) {
	met := map[api.Errno]int{}
	for seed := range int64(600) {
		c := chance{rand.New(rand.NewSource(seed)), someKeys()[:3]}
		config := c.config()
		w := open(t, config, c.someRows(config)...)
		for range 500 {
			s := c.Intn(config.Sessions)
			if c.Intn(40) == 0 {
				c.meddle(w, config)
			}
			if !w.Busy(s) {
				if a, e := w.Take(s); e == api.OK {
					met[a.Code]++
				}
				w.Start(s, c.call(w.Open(s), config.Buckets, []int{1, 2, 3, 4}))
			}
			for range 1 + c.Intn(30) {
				old := w.Accesses()
				busy := w.Busy(s)
				done, e := w.Step(s)
				if made := w.Accesses() - old; made > 1 || busy && !done && made != 1 || e != api.OK {
					t.Fatalf("seed %d: a step made %d accesses; %d", seed, made, e)
				}
			}
		}
	}
	t.Log(met)
	for _, e := range []api.Errno{api.ErrTx, api.ErrSlot, api.ErrMove, api.ErrRange} {
		if met[e] == 0 {
			t.Errorf("no call has met %d", e)
		}
	}
}

// What a call ends with if the transaction's record was taken away under it: nothing stops the end by abort.
func TestRecordThatIsTakenAway(t *testing.T) {
	for _, c := range []api.Call{get("a"), insert("b", ""), update("a", ""), remove("a"), scan("", ""), commit(), abort()} {
		w := open(t, roomy(), row("a", "1", 1))
		w.do(0, begin(si))
		w.Base().Tx.Move(1, api.TxTerminated)
		w.Base().Tx.Drop(1)
		w.start(0, c)
		done, e := w.Run(0, 100)
		want(t, "it is done", []any{done, e, w.Open(0)}, []any{true, api.OK, false})
		want(t, fmt.Sprintf("%+v", c), w.take(0).Code, map[bool]api.Errno{true: api.OK, false: api.ErrTx}[c.Kind == api.CallAbort])
		w.do(0, begin(si), get("a"))
	}
}

// A version that has got its slot, and is in the way of its own links then, is undone like all others.
func TestVersionThatIsHalfMade(t *testing.T) {
	for _, c := range []api.Call{insert("b", "2"), update("a", "2")} {
		w := open(t, roomy(), row("a", "1", 1))
		w.do(0, begin(si))
		w.start(0, c)
		for len(w.Base().Cells.Live()) == 1 {
			w.step(0)
		}
		w.Base().Cells.Store(2, api.CellHash, 1)
		w.rest(0)
		want(t, fmt.Sprintf("%+v", c), []any{w.take(0), w.Open(0), w.wordsOf(2), w.wordsOf(1), keys(w.Rows())}, []any{refused(api.ErrLinked), false, [2]uint64{api.Infinity, api.Infinity}, [2]uint64{1, api.Infinity}, "a=1"})
	}
}

// What a call is given is not changed and not kept; what it answers is new memory.
func TestAnswersAreNew(t *testing.T) {
	rows := []api.Row{row("a", "1", 1), row("b", "2", 1), row("c", "3", 1)}
	kept := slices.Clone(rows)
	w := open(t, roomy(), rows...)
	want(t, "P0.1: the rows", rows, kept)
	cs := []api.Call{begin(full), scan("", ""), get("b"), scan("", "c")}
	given := slices.Clone(cs)
	answers, e := w.Calls(0, cs...)
	want(t, "P0.1: the calls", []any{cs, e}, []any{given, api.OK})
	right := []api.Pair{pair("a", "1"), pair("b", "2"), pair("c", "3")}
	want(t, "P10.8", []any{answers[1].Rows, answers[2].Rows, answers[3].Rows}, []any{right, right[1:2], right[:2]})
	for _, a := range answers {
		for i := range a.Rows {
			a.Rows[i] = pair("changed", "changed")
		}
		_ = append(a.Rows, pair("more", "more"))
		_ = append(a.Rows[:0], pair("less", "less"))
	}
	cs[0], rows[0] = abort(), row("changed", "", 9)
	w.answers("P0.1: nobody sees it again", 0, scan("", ""), told(right...))
	h := w.History().Txns[1].Ops
	want(t, "P0.1: nor does the history", []any{h[0].Seen[0], h[1].Value}, []any{ver("a", 0, 1), "2"})
	w.do(0, commit())
}

// tale tells all that can be asked of a run.
func taleOf(t *testing.T, seed int64, beside *saga) (string, *saga) {
	x := newSaga(t, seed, api.Config{Slots: 60, Buckets: 2, TxSlots: 12, Sessions: 3, Coop: 1}, map[string]int{})
	x.left = 40
	if beside != nil {
		make := x.make
		x.make = func(s int) api.Call { // another engine is at work in between
			beside.Calls(s, beside.make(s))
			return make(s)
		}
	}
	x.tell()
	return fmt.Sprintf("%+v %+v %+v %d %d", x.History(), x.Commits(0), x.Rows(), x.Accesses(), x.Floor()), x
}

// The same calls and steps give the same answers; engines have nothing in common.
func TestSameAnswers(t *testing.T) {
	for seed := range int64(60) {
		first, _ := taleOf(t, seed, nil)
		_, other := taleOf(t, seed+1, nil)
		second, _ := taleOf(t, seed, other)
		if first != second {
			t.Fatalf("P0.1: seed %d: two runs part:\n%s\n%s", seed, first, second)
		}
	}
}

// worker is a session as a machine for the harness of layer 3.
type worker struct {
	*engine.Engine
	session int
}

func (m worker) Step() bool {
	done, _ := m.Engine.Step(m.session)
	return done
}

// The harness steps sessions as it steps all machines.
func TestSessionsOfTheHarness(t *testing.T) {
	for seed := range int64(60) {
		w := open(t, roomy(), row("a", "0", 1), row("b", "0", 1))
		for s := range 3 {
			w.do(s, begin(full))
		}
		h, _ := sched.New[sched.Machine](3)
		start := func(calls ...api.Call) []api.Answer {
			text := make([]byte, 20)
			rand.New(rand.NewSource(seed)).Read(text)
			for s, c := range calls {
				w.start(s, c)
				h.Submit(s, 0, worker{w.Engine, s})
			}
			h.Play(1000, sched.Decode(string(text))...)
			_, e := h.Drain(10000)
			want(t, "the harness", e, api.OK)
			var all []api.Answer
			for s := range calls {
				all = append(all, w.take(s))
			}
			return all
		}
		start(get("a"), get("b"), scan("", ""))
		want(t, "the writes", start(update("b", "1"), update("a", "1"), insert("c", "1")), []api.Answer{{}, {}, {}})
		ends := start(commit(), commit(), commit())
		if ends[0].Code == api.OK && ends[1].Code == api.OK {
			t.Errorf("P10.15: both of a skew have committed: %v", ends)
		}
		want(t, "P10.19: Misses", w.Base().Misses(), 0)
	}
}
