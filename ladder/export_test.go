package ladder

import (
	"fmt"
	"reflect"
	"runtime"
)

// Head tells the word of a head without an access, so that tests can follow a row past its marks.
func (l *Ladder[P]) Head(level int) uint64 { return l.heads[level].Load() }

// State tells all that a machine's next steps hang on beside the shared words, so that tests can tell whether two runs go on alike.
func (m *Insert[P]) State() string { return fmt.Sprintln(m.search.state(), m.rung) }

// State is as that of Insert.
func (m *Remove[P]) State() string { return fmt.Sprintln(m.search.state(), m.rung) }

// State is as that of Insert.
func (m *Walk[P]) State() string {
	return fmt.Sprintln(m.course.state(), m.level, m.ahead, m.present, m.slot)
}

// Begins tells whether the next access is the first of a search.
func (s *search[P]) Begins() bool {
	return s.next == touch{kind: kindLoad, place: head, level: s.ladder.levels - 1}
}

func (s *search[P]) state() string {
	return fmt.Sprintln(s.course.state(), nameOf(s.found), s.key, s.height, s.before, s.behind, s.level, s.ahead, s.present, s.follow)
}

func (c *course[P]) state() string { return fmt.Sprintln(c.next, nameOf(c.then), c.code) }

// nameOf tells the name of the method that a method value calls.
func nameOf(f any) string {
	v := reflect.ValueOf(f)
	if v.IsNil() {
		return ""
	}
	return runtime.FuncForPC(v.Pointer()).Name()
}
