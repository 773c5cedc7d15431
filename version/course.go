package version

import "strata/api"

// machine is whatever goes on by steps: the machines of the layers below, and this one's, are parts of greater ones.
type machine interface {
	Step() bool
	Code() api.Errno
}

// course is what all machines share: the method that makes the next access, the part that is at work, and how it ended.
type course struct {
	base *Base
	next func()
	part machine
	then func() // what comes behind the part
	code api.Errno
}

// step makes the next access, and what is local behind it; true: none is left. A machine that no base has made never had one.
func (c *course) step() bool {
	if c.next != nil {
		c.next()
	}
	return c.next == nil
}

// told tells the code; a machine that no base has made has nothing to tell.
func (c *course) told() api.Errno {
	if c.base == nil {
		return api.ErrNil
	}
	return c.code
}

// finish leaves no access to be made.
func (c *course) finish(e api.Errno) {
	c.next, c.part, c.then, c.code = nil, nil, nil, e
}

// run leaves the next steps to a part: they are steps of the whole. Its error is that of the whole.
func (c *course) run(part machine, then func()) {
	c.part, c.then = part, then
	c.next = c.stepPart
}

func (c *course) stepPart() {
	if !c.part.Step() {
		return
	}
	if e := c.part.Code(); e != api.OK {
		c.finish(e)
		return
	}
	c.then()
}
