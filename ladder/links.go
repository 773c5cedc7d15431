package ladder

import (
	"strata/api"
	"strata/bits"
)

const (
	head = 0           // the place ahead of all slots
	end  = api.MaxSlot // the number behind all slots
)

// linkOf tells the link of a number without the mark. Its numbers are slots and the end, which a link always holds.
func linkOf(number int) uint64 {
	w, _ := bits.Link(number, false)
	return w
}

// withMark tells the same link with the mark. Of the word 0 it is no end: nothing was ever put there still.
func withMark(w uint64) uint64 {
	number, _, e := bits.OfLink(w)
	if e != api.OK {
		number = end
	}
	marked, _ := bits.Link(number, true)
	return marked
}

// take takes a link apart. No slot counts as the end; so does a word that is no link, so that whatever other hands have stored leads to no slot.
func take(w uint64) (number int, marked bool) {
	number, marked, e := bits.OfLink(w)
	if e != api.OK || number == 0 {
		number = end
	}
	return number, marked
}
