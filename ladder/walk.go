package ladder

import "strata/api"

// Walk is the machine that goes along the lowest level (P5.5).
type Walk[P api.Keyed] struct {
	course[P]
	low     string
	level   int
	ahead   int // the place from which it goes down
	present int // the number that comes next
	slot    int // where it stands
}

// Walk begins ahead of the first slot whose key is low or above.
func (l *Ladder[P]) Walk(low string) *Walk[P] {
	if l.missing() {
		return nil
	}
	m := &Walk[P]{low: low, ahead: head}
	m.ladder = l
	m.enter(l.levels - 1)
	return m
}

// Step goes on by one access; true: it has arrived at the next slot, or at the end. Whatever comes, it no longer stands where it stood.
func (m *Walk[P]) Step() bool {
	if m == nil {
		return true
	}
	m.slot = 0
	return m.step()
}

// Slot tells where it stands; 0: nowhere, or the end.
func (m *Walk[P]) Slot() int {
	if m == nil {
		return 0
	}
	return m.slot
}

// Ended tells whether no further slot comes.
func (m *Walk[P]) Ended() bool { return m == nil || m.next.kind == kindNone }

// Code tells its error.
func (m *Walk[P]) Code() api.Errno {
	if m == nil {
		return api.ErrNil
	}
	return m.told()
}

// enter goes on at a level from the place that it came to at the level above (W1).
func (m *Walk[P]) enter(level int) bool {
	m.level = level
	return m.load(m.ahead, level, m.entered)
}

// entered does not look at the mark: the place may have been taken out since, and its link still leads to all that was behind it.
func (m *Walk[P]) entered(got outcome) bool {
	m.present, _ = take(got.word)
	return m.turn()
}

// turn goes past the present slot, or down, or begins to tell slots (T).
func (m *Walk[P]) turn() bool {
	isBelow, e := m.comesBelow(m.present)
	switch {
	case e != api.OK:
		return m.finish(e)
	case isBelow:
		return m.load(m.present, m.level, m.passed)
	case m.level > 0:
		return m.enter(m.level - 1)
	}
	return m.await(m.present)
}

// passed goes on from the slot that it passed by, unless that is being taken out (W2).
func (m *Walk[P]) passed(got outcome) bool {
	number, marked := take(got.word)
	if !marked {
		m.ahead = m.present
	}
	m.present = number
	return m.turn()
}

// await makes a number the pending one; at the end it has arrived.
func (m *Walk[P]) await(number int) bool {
	if number == end {
		return m.finish(api.OK)
	}
	m.present = number
	return m.load(number, 0, m.arrived)
}

// arrived stands at the pending slot, unless it is marked: then it is as good as gone (W3).
func (m *Walk[P]) arrived(got outcome) bool {
	number, marked := take(got.word)
	if !marked {
		m.slot = m.present
	}
	return m.await(number) || m.slot != 0
}

// comesBelow tells whether a number is that of a slot whose key is below low.
func (m *Walk[P]) comesBelow(number int) (bool, api.Errno) {
	if number == end {
		return false, api.OK
	}
	key, e := m.ladder.keyOf(number)
	return e == api.OK && key < m.low, e
}
