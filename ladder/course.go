package ladder

import "strata/api"

// kind says what a machine's next access is.
type kind int

const (
	kindNone kind = iota // none is left
	kindLook             // none yet: the arguments are looked at first
	kindLoad
	kindStore
	kindSwap
)

// touch is one access to a link.
type touch struct {
	kind       kind
	place      int // the slot whose link it is, or the head
	level      int
	old, fresh uint64 // of a swap; of a store fresh alone
}

// outcome is what an access gave.
type outcome struct {
	word    uint64 // of a load
	swapped bool   // of a swap
}

// course is what all machines have: the next access, what is done with its outcome, and how it all ended.
type course[P api.Keyed] struct {
	ladder *Ladder[P]
	next   touch
	then   func(outcome) bool // its answer is the step's
	code   api.Errno
}

// step makes the next access, and what is local behind it; true: the machine is done, or has arrived.
func (c *course[P]) step() bool {
	switch c.next.kind {
	case kindNone:
		return true
	case kindLook:
		return c.then(outcome{})
	}
	got, e := c.ladder.touch(c.next)
	if e != api.OK {
		return c.finish(e)
	}
	return c.then(got)
}

// told tells the code; a machine that no ladder has made has nothing to tell.
func (c *course[P]) told() api.Errno {
	if c.ladder == nil {
		return api.ErrNil
	}
	return c.code
}

// finish leaves no access to be made; it is the answer of the step that does so. So it is with the three below.
func (c *course[P]) finish(e api.Errno) bool {
	c.next, c.then, c.code = touch{}, nil, e
	return true
}

func (c *course[P]) load(place, level int, then func(outcome) bool) bool {
	c.next, c.then = touch{kind: kindLoad, place: place, level: level}, then
	return false
}

func (c *course[P]) store(place, level int, fresh uint64, then func(outcome) bool) bool {
	c.next, c.then = touch{kind: kindStore, place: place, level: level, fresh: fresh}, then
	return false
}

func (c *course[P]) swap(place, level int, old, fresh uint64, then func(outcome) bool) bool {
	c.next, c.then = touch{kindSwap, place, level, old, fresh}, then
	return false
}
