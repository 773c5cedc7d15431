package ladder

import "strata/api"

// List tells the slots of a level (from 0 on) that are linked and not marked there, in order: no access, for looking alone (P5.3).
func (l *Ladder[P]) List(level int) ([]int, api.Errno) {
	var list []int
	e := l.look(level, func(slot int, marked bool) {
		if !marked {
			list = append(list, slot)
		}
	})
	return list, e
}

// Held tells how many slots are linked at a level, marked ones too: no access, for looking alone (P5.3).
func (l *Ladder[P]) Held(level int) (int, api.Errno) {
	held := 0
	e := l.look(level, func(int, bool) { held++ })
	return held, e
}

// look meets the linked slots of a level from the head on. It counts them, since a slot that was freed while it was linked, and put in again, may lead back to itself.
func (l *Ladder[P]) look(level int, meet func(slot int, marked bool)) api.Errno {
	if l.missing() {
		return api.ErrNil
	}
	if level < 0 || level >= l.levels {
		return api.ErrArg
	}
	slot, _ := take(l.heads[level].Load())
	slots, _ := l.arena.Shape()
	for range slots {
		words, e := l.arena.Peek(slot)
		if e != api.OK { // the end, or a slot that is not in use: neither has cells
			break
		}
		next, marked := take(words[l.link+level])
		meet(slot, marked)
		slot = next
	}
	return api.OK
}
