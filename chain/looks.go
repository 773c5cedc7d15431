package chain

import "strata/api"

// List tells the slots of a bucket that are linked and not marked, in order: no access, for looking alone (P4.3).
func (x *Index[P]) List(bucket int) ([]int, api.Errno) {
	var list []int
	e := x.look(bucket, func(slot int, marked bool) {
		if !marked {
			list = append(list, slot)
		}
	})
	return list, e
}

// Held tells how many slots of a bucket are linked, marked ones too: no access, for looking alone (P4.3).
func (x *Index[P]) Held(bucket int) (int, api.Errno) {
	held := 0
	e := x.look(bucket, func(int, bool) { held++ })
	return held, e
}

// look meets the linked slots of a bucket from its head on. It counts them, since a slot that was freed while it was linked, and put in again, may lead back to itself.
func (x *Index[P]) look(bucket int, meet func(slot int, marked bool)) api.Errno {
	if x == nil {
		return api.ErrNil
	}
	if !x.has(bucket) {
		return api.ErrBucket
	}
	slot, _ := take(x.heads[bucket].Load())
	for range api.MaxSlots {
		words, e := x.arena.Peek(slot)
		if e != api.OK { // an end, no slot, or one that is not in use: none of them has cells
			break
		}
		next, marked := take(words[x.cell])
		meet(slot, marked)
		slot = next
	}
	return api.OK
}
