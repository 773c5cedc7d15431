package version_test

import (
	"fmt"
	"slices"
	"strconv"
	"strings"
	"testing"

	"strata/api"
)

// reader is the transaction that looks, maker and taker those whose words a version holds.
const (
	reader = 1
	maker  = 2
	taker  = 3
)

// stage lays out a version whose words are told by texts: a word (see wordOf), or a transaction's state (A, P, C, X, T) with its end, if it has one. The begin word's transaction is maker, the end word's taker; "=" is the maker again.
func stage(t *testing.T, clock uint64, begin, end string) (*world, int) {
	t.Helper()
	w := newWorld(t, 4, 1, 12, 0)
	w.open(3)
	type cast struct {
		id   int
		text string
	}
	var all []cast
	words := [2]uint64{}
	for i, text := range []string{begin, end} {
		switch {
		case text == "=":
			words[i] = word(maker)
		case len(text) > 0 && slices.Contains([]byte("APCXT"), text[0]):
			all = append(all, cast{maker + i, text})
			words[i] = word(maker + i)
		default:
			words[i] = wordOf(text)
		}
	}
	slices.SortStableFunc(all, func(a, b cast) int { return strings.Compare(a.text[1:], b.text[1:]) }) // ends are drawn in their order
	for _, c := range all {
		w.become(c.id, c.text)
	}
	slot := w.put("k", words[0], words[1])
	w.tick(clock)
	return w, slot
}

// become leads an active transaction to a state, with an end.
func (w *world) become(id int, text string) {
	w.t.Helper()
	if text[0] == 'P' || text[0] == 'C' {
		w.move(id, api.TxPreparing)
	}
	if len(text) > 1 {
		end, _ := strconv.ParseUint(text[1:], 10, 64)
		w.tick(end - 1)
		m := w.Tx.Draw(id)
		w.run(m)
		want(w.t, "the end", m.End(), end)
	}
	switch text[0] {
	case 'C':
		w.move(id, api.TxCommitted)
	case 'X':
		w.move(id, api.TxAborted)
	case 'T':
		w.move(id, api.TxTerminated)
	}
}

type sightCase struct {
	begin, end string
	clock, at  uint64
	accesses   string
	bar        int
	e          api.Errno
	open       int // dependencies of the reader that are open then
}

// look looks at a version by See and by Bar.
func (c sightCase) look(t *testing.T, id int) {
	t.Helper()
	what := fmt.Sprintf("a version of %s, %s at %d, clock %d, by %d", c.begin, c.end, c.at, c.clock, id)
	w, slot := stage(t, c.clock, c.begin, c.end)
	words := [2]uint64{}
	words[0], words[1], _ = w.Words(slot)
	w.finish("P7.5: "+what, w.See(id, slot, c.at), c.accesses, c.e, c.bar == api.BarSeen)
	if id != 0 {
		w.waits("P7.5: "+what, id, c.open, 0)
	}
	w.holds("P7.5: "+what, slot, words[0], words[1])
	w, slot = stage(t, c.clock, c.begin, c.end)
	w.finish("P7.6: "+what, w.Bar(id, slot, c.at), c.accesses, c.e, c.bar)
	if id != 0 {
		w.waits("P7.6: "+what, id, c.open, 0)
	}
}

const (
	none = api.BarNone
	seen = api.BarSeen
	busy = api.BarBusy
)

func TestSightOfTheBeginWord(t *testing.T) {
	for _, c := range []sightCase{
		{"inf", "inf", 9, 50, "c", none, 0, 0},
		{"inf", "inf", 9, 1<<64 - 1, "c", none, 0, 0},
		{"inf", "bad", 9, 50, "c", none, 0, 0},
		{"51", "inf", 9, 50, "c", busy, 0, 0},
		{"51", "7", 9, 50, "c", busy, 0, 0},
		{"50", "inf", 9, 50, "cc", seen, 0, 0},
		{"49", "inf", 9, 50, "cc", seen, 0, 0},
		{"0", "inf", 9, 0, "cc", seen, 0, 0},
		{"1", "inf", 9, 0, "c", busy, 0, 0},
		{"4611686018427387903", "inf", 9, api.MaxTime - 1, "c", busy, 0, 0},
		{"4611686018427387903", "inf", 9, api.MaxTime, "cc", seen, 0, 0},
		{"4611686018427387903", "inf", 9, 1<<64 - 1, "cc", seen, 0, 0},
		{"#1", "inf", 9, 50, "cc", seen, 0, 0},
		{"#1", "inf", 9, 0, "cc", seen, 0, 0},
		{"bad", "inf", 9, 50, "c", none, api.ErrRange, 0},
		{"A", "inf", 9, 50, "ct", busy, 0, 0},
		{"A", "bad", 9, 1<<64 - 1, "ct", busy, 0, 0},
		{"X", "inf", 9, 50, "ct", none, 0, 0},
		{"X40", "inf", 40, 50, "ct", none, 0, 0},
		{"C50", "inf", 50, 50, "cttc", seen, 0, 0},
		{"C49", "inf", 49, 50, "cttc", seen, 0, 0},
		{"C51", "inf", 51, 50, "ctt", busy, 0, 0},
		{"C", "inf", 9, 0, "cttc", seen, 0, 0}, // its end was never drawn
		{"P50", "inf", 50, 50, "cttc" + "ttt", seen, 0, 1},
		{"P49", "inf", 60, 50, "cttc" + "ttt", seen, 0, 1},
		{"P51", "inf", 51, 50, "ctt", busy, 0, 0},
		{"P", "inf", 49, 50, "ctttt" + "c" + "ttt", seen, 0, 1},
		{"P", "inf", 50, 50, "ctttt", busy, 0, 0},
		{"P", "inf", 9, 0, "ctttt", busy, 0, 0},
		{"#4", "inf", 9, 50, "ctx", none, api.ErrTx, 0},
		{"#12", "inf", 9, 50, "ctx", none, api.ErrTx, 0},
		{"#13", "inf", 9, 50, "ct", none, api.ErrTx, 0},
		{"#0", "inf", 9, 50, "ct", none, api.ErrTx, 0},
		{"#4611686018427387903", "inf", 9, 50, "ct", none, api.ErrTx, 0},
	} {
		c.look(t, reader)
	}
}

func TestSightOfTheEndWord(t *testing.T) {
	for _, c := range []sightCase{
		{"5", "inf", 9, 1<<64 - 1, "cc", seen, 0, 0},
		{"5", "51", 9, 50, "cc", seen, 0, 0},
		{"5", "50", 9, 50, "cc", none, 0, 0},
		{"5", "0", 9, 50, "cc", none, 0, 0},
		{"5", "4611686018427387903", 9, api.MaxTime, "cc", none, 0, 0},
		{"5", "4611686018427387903", 9, api.MaxTime - 1, "cc", seen, 0, 0},
		{"5", "#1", 9, 50, "cc", none, 0, 0},
		{"5", "bad", 9, 50, "cc", none, api.ErrRange, 0},
		{"5", "A", 9, 50, "cct", seen, 0, 0},
		{"5", "X", 9, 50, "cct", seen, 0, 0},
		{"5", "X20", 20, 50, "cct", seen, 0, 0},
		{"5", "C51", 51, 50, "cctt", seen, 0, 0},
		{"5", "C50", 50, 50, "cctt", none, 0, 0},
		{"5", "C", 9, 50, "cctt", none, 0, 0},
		{"5", "P51", 51, 50, "cctt", seen, 0, 0},
		{"5", "P50", 50, 50, "cctt" + "ttt", none, 0, 1},
		{"5", "P", 50, 50, "cctttt", seen, 0, 0},
		{"5", "P", 49, 50, "cctttt" + "ttt", none, 0, 1},
		{"5", "#4", 9, 50, "cctx", none, api.ErrTx, 0},
		{"5", "#0", 9, 50, "cct", none, api.ErrTx, 0},
		{"5", "#13", 9, 50, "cct", none, api.ErrTx, 0},
	} {
		c.look(t, reader)
		c.begin = "#1" // its own has begun likewise
		c.look(t, reader)
	}
}

func TestSightOfBothWords(t *testing.T) {
	for _, c := range []sightCase{
		{"#1", "#1", 9, 50, "cc", none, 0, 0},
		{"C20", "C30", 30, 50, "ctt" + "ctt", none, 0, 0},
		{"C20", "C60", 60, 50, "ctt" + "ctt", seen, 0, 0},
		{"C20", "=", 20, 50, "ctt" + "ctt", none, 0, 0},
		{"P20", "P30", 30, 50, "ctt" + "ctt" + "ttt", none, 0, 1},
		{"P20", "P60", 60, 50, "ctt" + "ctt" + "ttt", seen, 0, 1},
		{"P20", "A", 20, 50, "ctt" + "ct" + "ttt", seen, 0, 1},
		{"P20", "X", 20, 50, "ctt" + "ct" + "ttt", seen, 0, 1},
		{"P20", "C30", 30, 50, "ctt" + "ctt", none, 0, 0},
		{"P20", "C60", 60, 50, "ctt" + "ctt" + "ttt", seen, 0, 1},
		{"P20", "=", 20, 50, "ctt" + "ctt" + "ttt", none, 0, 1},
		{"P20", "20", 20, 50, "ctt" + "c", none, 0, 0},
		{"P20", "60", 20, 50, "ctt" + "c" + "ttt", seen, 0, 1},
		{"P20", "#1", 20, 50, "ctt" + "c", none, 0, 0},
		{"P20", "bad", 20, 50, "ctt" + "c", none, api.ErrRange, 0},
		{"P", "P", 20, 50, "ctttt" + "ctttt" + "ttt", none, 0, 1},
		{"P", "P", 48, 50, "ctttt" + "ctttt" + "ttt", none, 0, 1},
		{"P", "P", 49, 50, "ctttt" + "ctttt" + "ttt", seen, 0, 1},
		{"C20", "P30", 30, 50, "ctt" + "ctt" + "ttt", none, 0, 1},
		{"C20", "P", 50, 50, "ctt" + "ctttt", seen, 0, 0},
		{"A", "C30", 30, 50, "ct", busy, 0, 0},
	} {
		c.look(t, reader)
	}
}

// The one that is depended on is the one on whose word something was said.
func TestSightDependsOnTheRightOne(t *testing.T) {
	for _, c := range []struct {
		begin, end string
		on, other  int
		seen       bool
	}{{"P20", "P60", maker, taker, true}, {"P20", "P30", taker, maker, false}, {"P20", "A", maker, taker, true}, {"C20", "P30", taker, maker, false}, {"P20", "X", maker, taker, true}} {
		w, slot := stage(t, 60, c.begin, c.end)
		m := w.See(reader, slot, 50)
		w.run(m)
		want(t, "P7.5: seen", m.Seen(), c.seen)
		w.Tx.Move(c.other, api.TxAborted)
		w.run(w.Tx.Close(c.other))
		w.waits("P7.5: the other one", reader, 1, 0)
		w.move(c.on, api.TxAborted)
		w.run(w.Tx.Close(c.on))
		w.waits("P7.5: the one that it depends on", reader, 0, 1)
	}
}

// Nobody has no version of its own, and waits for none: what hangs on another's fate has not begun, and has ended.
func TestSightOfNobody(t *testing.T) {
	for _, c := range []sightCase{
		{"5", "inf", 9, 50, "cc", seen, 0, 0},
		{"5", "51", 9, 50, "cc", seen, 0, 0},
		{"5", "50", 9, 50, "cc", none, 0, 0},
		{"51", "inf", 9, 50, "c", busy, 0, 0},
		{"inf", "inf", 9, 50, "c", none, 0, 0},
		{"A", "inf", 9, 50, "ct", busy, 0, 0},
		{"X", "inf", 9, 50, "ct", none, 0, 0},
		{"C50", "inf", 50, 50, "cttc", seen, 0, 0},
		{"C51", "inf", 51, 50, "ctt", busy, 0, 0},
		{"P50", "inf", 50, 50, "ctt", busy, 0, 0},
		{"P51", "inf", 51, 50, "ctt", busy, 0, 0},
		{"P", "inf", 20, 50, "ctttt", busy, 0, 0},
		{"P", "inf", 50, 50, "ctttt", busy, 0, 0},
		{"5", "A", 9, 50, "cct", seen, 0, 0},
		{"5", "X", 9, 50, "cct", seen, 0, 0},
		{"5", "C50", 50, 50, "cctt", none, 0, 0},
		{"5", "C51", 51, 50, "cctt", seen, 0, 0},
		{"5", "P50", 50, 50, "cctt", none, 0, 0},
		{"5", "P51", 51, 50, "cctt", seen, 0, 0},
		{"5", "P", 20, 50, "cctttt", none, 0, 0},
		{"5", "P", 50, 50, "cctttt", seen, 0, 0},
		{"#0", "inf", 9, 50, "ct", none, api.ErrTx, 0}, // the word of the number 0 is not nobody's
		{"5", "#0", 9, 50, "cct", none, api.ErrTx, 0},
		{"5", "bad", 9, 50, "cc", none, api.ErrRange, 0},
	} {
		c.look(t, 0)
	}
}

func TestSightOfBadWords(t *testing.T) {
	w := newWorld(t, 2, 1, 1, 0)
	slot := w.put("k", 1, 2)
	for _, bad := range badWords() {
		for id := range 2 {
			w.write(slot, bad, api.Infinity)
			w.finish("P7.5: a bad begin word", w.See(id, slot, 1<<64-1), "c", api.ErrRange, false)
			w.finish("P7.6: a bad begin word", w.Bar(id, slot, 1<<64-1), "c", api.ErrRange, none)
			w.write(slot, 0, bad)
			w.finish("P7.5: a bad end word", w.See(id, slot, 5), "cc", api.ErrRange, false)
			w.finish("P7.6: a bad end word", w.Bar(id, slot, 5), "cc", api.ErrRange, none)
		}
	}
}

func TestSightIsRefused(t *testing.T) {
	w := newWorld(t, 2, 1, 3, 0)
	slot := w.put("k", 1, api.Infinity)
	for _, id := range strange() {
		for _, s := range strange() {
			right := api.ErrSlot
			switch {
			case id < 0 || id > 3:
				right = api.ErrTx
			case s == slot:
				w.finish("P7.5: a number that is not in use looks", w.See(id, s, 1), "cc", api.OK, true)
				w.finish("P7.6: a number that is not in use looks", w.Bar(id, s, 1), "cc", api.OK, seen)
				continue
			}
			w.refused(fmt.Sprintf("P7.5: See(%d, %d)", id, s), w.See(id, s, 1), right)
			w.refused(fmt.Sprintf("P7.6: Bar(%d, %d)", id, s), w.Bar(id, s, 1), right)
		}
	}
	m := w.See(1, slot, 1)
	w.play("P7.5", m, "c")
	w.Cells.Free(slot)
	w.finish("P7.5: freed between", m, "x", api.ErrSlot, false)
}

// A reader whose number is not in use can't wait.
func TestSightOfAReaderThatIsNotInUse(t *testing.T) {
	w, slot := stage(t, 20, "P20", "inf")
	w.finish("P7.5: trusts the maker", w.See(9, slot, 50), "ctt"+"c"+"tx", api.ErrTx, false)
	w, slot = stage(t, 20, "5", "P20")
	w.finish("P7.6: trusts the taker", w.Bar(9, slot, 50), "cctt"+"tx", api.ErrTx, none)
}

func TestSightAtTheLastTimestamp(t *testing.T) {
	for _, at := range []uint64{50, 1<<64 - 1} {
		w := newWorld(t, 2, 1, 2, api.MaxTime)
		w.open(2)
		w.move(2, api.TxPreparing)
		slot := w.put("k", word(2), api.Infinity)
		w.finish("P7.5: no timestamp is left", w.See(1, slot, at), "cttt", api.ErrClock, false)
		w.write(slot, 3, word(2))
		w.finish("P7.6: no timestamp is left", w.Bar(1, slot, at), "ccttt", api.ErrClock, none)
	}
}

// Terminated: its words have been written over since, and are loaded again.
func TestSightOfOneThatHasTerminated(t *testing.T) {
	for _, c := range []struct {
		now, accesses string
		bar           int
	}{{"30", "cc", seen}, {"60", "c", busy}, {"inf", "c", none}} {
		for _, by := range []int{reader, 0} {
			w, slot := stage(t, 20, "T20", "inf")
			m, b := w.See(by, slot, 50), w.Bar(by, slot, 50)
			w.play("P7.5: again and again", m, "ctctct")
			w.play("P7.6: again and again", b, "ctct")
			w.write(slot, wordOf(c.now), api.Infinity)
			w.finish("P7.5: then "+c.now, m, c.accesses, api.OK, c.bar == seen)
			w.finish("P7.6: then "+c.now, b, c.accesses, api.OK, c.bar)
		}
	}
	for _, c := range []struct {
		now string
		bar int
	}{{"inf", seen}, {"60", seen}, {"30", none}} {
		w, slot := stage(t, 20, "5", "T20")
		m, b := w.See(reader, slot, 50), w.Bar(reader, slot, 50)
		w.play("P7.5: again and again", m, "cctctct")
		w.play("P7.6: again and again", b, "cctct")
		w.write(slot, api.Infinity, wordOf(c.now)) // the begin word is not looked at again
		w.finish("P7.5: then "+c.now, m, "c", api.OK, c.bar == seen)
		w.finish("P7.6: then "+c.now, b, "c", api.OK, c.bar)
	}
}

// fill takes places for dependents.
func (w *world) fill(on, from, to int) {
	w.t.Helper()
	for id := from; id <= to; id++ {
		m := w.Tx.Depend(id, on)
		w.run(m)
		want(w.t, "a place for a dependent", m.Came(), api.DepTaken)
	}
}

// What a dependency comes to, when the other one's fate is known by then.
func TestSightOfAKnownFate(t *testing.T) {
	for _, c := range []struct {
		name       string
		fate       []int
		last       string // behind the place that is found closed
		end, begin int
	}{
		{"committed", []int{api.TxCommitted}, "tttt", none, seen},
		{"aborted", []int{api.TxAborted}, "tttt", seen, none},
		{"terminated", []int{api.TxAborted, api.TxTerminated}, "tttt", 0, 0},
	} {
		w, slot := stage(t, 20, "5", "P20")
		m, b := w.See(reader, slot, 50), w.Bar(reader, slot, 50)
		w.play("P7.5", m, "cctt")
		w.play("P7.6", b, "cctt")
		w.move(taker, c.fate[0])
		w.run(w.Tx.Close(taker))
		if len(c.fate) > 1 {
			w.move(taker, c.fate[1:]...)
			w.play("P7.5: "+c.name+": the end word again", m, c.last)
			w.play("P7.6: "+c.name+": the end word again", b, c.last)
			w.write(slot, api.Infinity, 51)
			w.finish("P7.5: "+c.name, m, "c", api.OK, true)
			w.finish("P7.6: "+c.name, b, "c", api.OK, seen)
		} else {
			w.finish("P7.5: the taker has "+c.name, m, c.last, api.OK, c.end == seen)
			w.finish("P7.6: the taker has "+c.name, b, c.last, api.OK, c.end)
		}
		w.waits("P7.5", reader, 0, 0)

		w, slot = stage(t, 20, "P20", "inf")
		m, b = w.See(reader, slot, 50), w.Bar(reader, slot, 50)
		w.play("P7.5", m, "cttc")
		w.play("P7.6", b, "cttc")
		w.move(maker, c.fate[0])
		w.run(w.Tx.Close(maker))
		if len(c.fate) > 1 {
			w.move(maker, c.fate[1:]...)
			w.play("P7.5: "+c.name+": the begin word again", m, c.last)
			w.play("P7.6: "+c.name+": the begin word again", b, c.last)
			w.write(slot, 20, api.Infinity) // the note is forgotten: nobody is depended on
			w.finish("P7.5: "+c.name, m, "cc", api.OK, true)
			w.finish("P7.6: "+c.name, b, "cc", api.OK, seen)
		} else {
			w.finish("P7.5: the maker has "+c.name, m, c.last, api.OK, c.begin == seen)
			w.finish("P7.6: the maker has "+c.name, b, c.last, api.OK, c.begin)
		}
		w.waits("P7.5", reader, 0, 0)
	}
}

// A record that is used anew while it is asked: its state says nothing of the fate that was waited for.
func TestSightOfARecordUsedAnew(t *testing.T) {
	for _, c := range []struct{ begin, end, before string }{{"5", "P20", "cctt"}, {"P20", "inf", "cttc"}} {
		id := taker
		if c.begin != "5" {
			id = maker
		}
		w, slot := stage(t, 20, c.begin, c.end)
		m := w.See(reader, slot, 50)
		w.play("P7.5", m, c.before)
		w.move(id, api.TxAborted)
		w.run(w.Tx.Close(id))
		w.play("P7.5: finds its place closed", m, "ttt")
		w.run(w.Tx.Quit(id))
		w.open(10) // the last of them gets the place that was left
		state, _, _ := w.Tx.Look(id)
		want(t, "the state", state, api.TxActive)
		w.finish("P7.5: DepNone", m, "t", api.OK, false)
	}
}

func TestSightWhereAllPlacesAreTaken(t *testing.T) {
	for _, c := range []struct {
		begin, end, before string
		on                 int
	}{{"5", "P20", "cctt", taker}, {"P20", "inf", "cttc", maker}} {
		w, slot := stage(t, 20, c.begin, c.end)
		w.open(9)
		w.fill(c.on, 4, 10)
		m := w.Bar(12, slot, 50)
		w.play("P7.6", m, c.before+"t")
		w.fill(c.on, 11, 11)
		w.finish("P7.5: all places are taken", w.See(reader, slot, 50), c.before+"t"+"tttttttt"+"t", api.ErrDeps, false)
		w.waits("P7.5: all places are taken", reader, 0, 0)
		w.finish("P7.6: all places are taken", m, "tttttttt"+"t", api.ErrDeps, none)
		bar := none
		if c.on == maker {
			bar = seen
		}
		w.finish("P7.6: one that has a place", w.Bar(11, slot, 50), c.before+"t"+"tttttttt"+"t", api.OK, bar)
		w.waits("P7.6: counts once", 11, 1, 0)
	}
}

// The words change between a sight's steps.
func TestSightWhileOthersGoOn(t *testing.T) {
	w, slot := stage(t, 20, "P", "inf")
	m := w.See(reader, slot, 50)
	w.play("P7.5", m, "cttt") // it has ticked 21, and not put it
	w.run(w.Tx.Draw(maker))   // 22
	w.play("P7.5: swaps in vain, reads the end again", m, "tt")
	_, end, _ := w.Tx.Look(maker)
	want(t, "the end", end, 22)
	w.play("P7.5", m, "c")
	w.finish("P7.5: then it depends", m, "ttt", api.OK, true)

	w, slot = stage(t, 20, "A", "inf")
	m = w.See(reader, slot, 50)
	w.play("P7.5", m, "c")
	w.become(maker, "P21")
	w.play("P7.5: it prepares meanwhile", m, "tt")
	w.move(maker, api.TxCommitted)
	w.write(slot, 21, word(taker))
	w.become(taker, "C30")
	w.finish("P7.5: and is taken by one that commits", m, "ctt", api.OK, false)
	w.waits("P7.5: it depends on nobody", reader, 0, 0)

	w, slot = stage(t, 20, "C20", "inf")
	b := w.Bar(reader, slot, 19)
	w.play("P7.6", b, "ct")
	w.run(w.Commit(maker, []int{slot}, nil, 20))
	w.move(maker, api.TxTerminated)
	w.finish("P7.6: its end is asked for still", b, "t", api.OK, busy)
}
