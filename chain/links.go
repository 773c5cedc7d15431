package chain

import (
	"strata/api"
	"strata/bits"
)

// endOf tells the number in the end word of a bucket: no slot has it.
func endOf(bucket int) int { return api.MaxSlots + 1 + bucket }

// isEnd tells whether a link of that number is the last of a list.
func isEnd(number int) bool { return number > api.MaxSlots }

// linkOf tells the link of a number without the mark. Its numbers are slots and ends, which a link always holds.
func linkOf(number int) uint64 {
	w, _ := bits.Link(number, false)
	return w
}

// markOf tells the link of a number with the mark.
func markOf(number int) uint64 {
	w, _ := bits.Link(number, true)
	return w
}

// take takes a link apart. A word that is no link is taken as the end of nobody's list, so that whatever other hands have stored ends a walk and leads to no slot.
func take(w uint64) (number int, marked bool) {
	number, marked, e := bits.OfLink(w)
	if e != api.OK {
		return api.MaxSlot, false
	}
	return number, marked
}
