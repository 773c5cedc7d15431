package sweep

import "strata/api"

// stepper is whatever goes on by steps.
type stepper interface{ Step() bool }

// machine is a stepper that tells how it ended.
type machine interface {
	stepper
	Code() api.Errno
}

// single is a machine of one access.
type single struct {
	reach func() api.Errno
	code  api.Errno
}

// Step makes the access.
func (s *single) Step() bool {
	s.code = s.reach()
	return true
}

// Code tells what the access answered.
func (s *single) Code() api.Errno { return s.code }

// course is what all machines share: the part that is at work, what comes behind it, and how the whole ended.
type course struct {
	sweeper *Sweeper
	part    stepper // nil: done
	then    func()
	code    api.Errno
}

// drive makes one step of the part that is at work: it is a step of the whole. True: no part is left.
func (c *course) drive() bool {
	if c.part != nil && c.part.Step() {
		c.then()
	}
	return c.part == nil
}

// told tells the code; a machine that no sweeper has made has nothing to tell.
func (c *course) told() api.Errno {
	if c.sweeper == nil {
		return api.ErrNil
	}
	return c.code
}

// finish leaves no part to be run.
func (c *course) finish(e api.Errno) { c.part, c.then, c.code = nil, nil, e }

// refuse lets the first step end the machine, without an access.
func (c *course) refuse(e api.Errno) {
	c.follow(&single{reach: func() api.Errno { return e }}, func() { c.finish(api.OK) })
}

// run leaves the next steps to a part, whatever it comes to.
func (c *course) run(part stepper, then func()) { c.part, c.then = part, then }

// follow leaves the next steps to a part whose error is that of the whole.
func (c *course) follow(part machine, then func()) {
	c.run(part, func() {
		if e := part.Code(); e != api.OK {
			c.finish(e)
			return
		}
		then()
	})
}

// reach leaves the next step to one access whose error is that of the whole.
func (c *course) reach(access func() api.Errno, then func()) {
	c.follow(&single{reach: access}, then)
}
