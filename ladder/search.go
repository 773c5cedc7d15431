package ladder

import (
	"cmp"
	"strings"

	"strata/api"
)

// search is the machine that finds where a slot has its place at each level, and unlinks on its way what is marked. Insert and Remove embed it.
type search[P api.Keyed] struct {
	course[P]
	key            string
	slot           int
	height         int
	before, behind [api.MaxLevels]int // the last place ahead of (key, slot), and the first number that is not
	found          func() bool        // what comes when the search is done; its answer is the step's

	level   int
	ahead   int // the place whose link names the present slot
	present int
	follow  int // the number in the present slot's link, which is marked
}

// prepare makes a machine that looks at its arguments at its first step.
func (s *search[P]) prepare(l *Ladder[P], slot int, begin func(outcome) bool) {
	s.ladder, s.slot = l, slot
	s.next.kind, s.then = kindLook, begin
}

// aim looks at the slot that the machine was given.
func (s *search[P]) aim() api.Errno {
	p, e := s.ladder.arena.Payload(s.slot)
	if e != api.OK {
		return e
	}
	s.height = askHeight(p)
	if s.height < 1 || s.height > s.ladder.levels {
		return api.ErrLevel
	}
	s.key = askKey(p)
	return api.OK
}

// seek begins the search; found is what comes behind it.
func (s *search[P]) seek(found func() bool) bool {
	s.found = found
	return s.restart()
}

// restart begins at the head again, the only place that is never taken out.
func (s *search[P]) restart() bool {
	s.ahead = head
	return s.enter(s.ladder.levels - 1)
}

// enter goes on at a level from the place that it came to at the level above (F1).
func (s *search[P]) enter(level int) bool {
	s.level = level
	return s.load(s.ahead, level, s.entered)
}

func (s *search[P]) entered(got outcome) bool {
	number, marked := take(got.word)
	if marked {
		return s.restart()
	}
	return s.meet(number)
}

// meet looks at what stands behind the place ahead (F2).
func (s *search[P]) meet(number int) bool {
	if number == end {
		return s.settle(end)
	}
	s.present = number
	return s.load(number, s.level, s.met)
}

func (s *search[P]) met(got outcome) bool {
	number, marked := take(got.word)
	if marked {
		s.follow = number
		return s.swap(s.ahead, s.level, linkOf(s.present), linkOf(number), s.unlinked)
	}
	isAhead, e := s.comesAhead(s.present)
	if e != api.OK {
		return s.finish(e)
	}
	if !isAhead {
		return s.settle(s.present)
	}
	s.ahead = s.present
	return s.meet(number)
}

// unlinked goes on past the slot that was taken out (F3). Where the swap has failed the place ahead has changed, or is marked itself and must not be built upon.
func (s *search[P]) unlinked(got outcome) bool {
	if !got.swapped {
		return s.restart()
	}
	return s.meet(s.follow)
}

// settle notes what was found at this level, and goes down.
func (s *search[P]) settle(behind int) bool {
	s.before[s.level], s.behind[s.level] = s.ahead, behind
	if s.level == 0 {
		return s.found()
	}
	return s.enter(s.level - 1)
}

// comesAhead tells whether a slot comes ahead of the one that is looked for.
func (s *search[P]) comesAhead(slot int) (bool, api.Errno) {
	key, e := s.ladder.keyOf(slot)
	if e != api.OK {
		return false, e
	}
	order := cmp.Or(strings.Compare(key, s.key), cmp.Compare(slot, s.slot))
	return order < 0, api.OK
}
