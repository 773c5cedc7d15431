package valid

import (
	"strata/api"
	"strata/version"
)

// machine is whatever goes on by steps: an access, a walk, a machine of the layer below, one of this layer.
type machine interface {
	Step() bool
	Code() api.Errno
}

// course is what all machines share: the part that is at work, what comes behind it, and how the whole ended.
type course struct {
	base *version.Base
	part machine // nil: nothing is left to be done
	then func()
	code api.Errno
}

// drive makes one step of the part that is at work: it is a step of the whole. True: no part is left.
func (c *course) drive() bool {
	if c.part != nil && c.part.Step() {
		c.arrive()
	}
	return c.part == nil
}

// arrive goes on behind a part, whose error is that of the whole.
func (c *course) arrive() {
	if e := c.part.Code(); e != api.OK {
		c.finish(e)
		return
	}
	c.then()
}

// told tells the code; a machine that no call has made has nothing to tell.
func (c *course) told() api.Errno {
	if c.base == nil {
		return api.ErrNil
	}
	return c.code
}

// idle tells whether no access is left to be made.
func (c *course) idle() bool { return c.part == nil }

// run leaves the next steps to a part.
func (c *course) run(part machine, then func()) { c.part, c.then = part, then }

// finish leaves no part to be run.
func (c *course) finish(e api.Errno) { c.part, c.then, c.code = nil, nil, e }

// refuse lets the first step end the machine, without an access.
func (c *course) refuse(e api.Errno) { c.run(refusal{e}, nil) }

// refusal is a machine that has no access to make and ends with an error.
type refusal struct{ code api.Errno }

func (r refusal) Step() bool { return true }

func (r refusal) Code() api.Errno { return r.code }

// isPlace tells whether a number is that of a place for transactions.
func isPlace(b *version.Base, id int) bool { return id >= 1 && id <= b.Tx.Places() }
