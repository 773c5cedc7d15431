package txtab

import (
	"fmt"
	"reflect"
	"runtime"

	"strata/api"
)

// Inside is all that a table holds.
type Inside struct {
	Clock   uint64
	Free    []int
	Waiting [][2]uint64 // numbers and stamps
	Records []Record
}

// Record is all that a place holds; of one whose record is not in use the announced begin alone.
type Record struct {
	Info      api.TxInfo
	State     int
	Announced uint64
	End       uint64
	Word      uint64
	Places    [api.MaxDeps]uint64
	Retired   bool
}

// Inside tells it without an access.
func (t *Table) Inside() Inside {
	all := Inside{Clock: t.clock}
	for i := range t.free.count {
		all.Free = append(all.Free, t.free.ring[(t.free.front+i)%len(t.free.ring)])
	}
	for i := range t.waiting.count {
		w := t.waiting.ring[(t.waiting.front+i)%len(t.waiting.ring)]
		all.Waiting = append(all.Waiting, [2]uint64{uint64(w.id), w.stamp})
	}
	for i := range t.records {
		all.Records = append(all.Records, t.records[i].inside())
	}
	return all
}

func (r *record) inside() Record {
	x := Record{Announced: r.announced.Load()}
	if r.state.Load() == unused {
		return x
	}
	x.Info, x.State, x.End, x.Word, x.Retired = r.info, int(r.state.Load()), r.end.Load(), r.word.Load(), r.retired
	for i := range r.dependents {
		x.Places[i] = r.dependents[i].Load()
	}
	return x
}

// SetWord writes a word of dependencies, so that tests can look at halves that no run would reach.
func (t *Table) SetWord(id int, word uint64) { t.records[id-1].word.Store(word) }

// State of a machine tells all that its next steps hang on beside the table, so that tests can tell whether two runs go on alike.
func (m *Start) State() string { return fmt.Sprint(m.course.state(), m.id, m.begin) }

// State is as that of Start.
func (m *Draw) State() string { return fmt.Sprint(m.course.state(), m.id, m.end) }

// State is as that of Start.
func (m *Depend) State() string {
	return fmt.Sprint(m.course.state(), m.id, m.on, m.place, m.came, m.lost)
}

// State is as that of Start.
func (m *Close) State() string {
	return fmt.Sprint(m.course.state(), m.id, m.news, m.place, m.holds, m.count)
}

// State is as that of Start.
func (m *Floor) State() string { return fmt.Sprint(m.course.state(), m.place, m.floor) }

// State is as that of Start.
func (m *Leave) State() string { return fmt.Sprint(m.course.state(), m.id, m.stamp) }

// State is as that of Start.
func (m *Quit) State() string { return fmt.Sprint(m.course.state(), m.id) }

func (c *course) state() string {
	name := ""
	if c.next != nil {
		name = runtime.FuncForPC(reflect.ValueOf(c.next).Pointer()).Name()
	}
	return fmt.Sprintln(name, c.done, c.code)
}
