package engine

import "strata/api"

// machine is whatever goes on by steps: a single access, a walk, a machine of a layer below.
type machine interface {
	Step() bool
	Code() api.Errno
}

// single is a machine of one access.
type single struct {
	reach func() api.Errno
	code  api.Errno
}

// Step makes the access.
func (m *single) Step() bool {
	m.code = m.reach()
	return true
}

// Code tells what the access answered.
func (m *single) Code() api.Errno { return m.code }

// ending is thrown, from however deep inside a call, when the transaction has to end by abort.
type ending struct{ code api.Errno }

// course is the chain of parts by which a call goes on.
type course struct {
	part  machine         // the one that is at work; nil: nothing is left to be done
	then  func()          // follows it, if it has ended well
	fault func(api.Errno) // follows it, if it has not
}

// drive makes a step of the part that is at work, and goes on behind it up to just ahead of the next access.
func (c *course) drive() {
	if !c.part.Step() {
		return
	}
	if e := c.part.Code(); e != api.OK {
		c.fault(e)
		return
	}
	c.then()
}

// run leaves the next steps to a part whose error ends the transaction.
func (c *course) run(part machine, then func()) { c.try(part, then, giveUp) }

// try leaves them to a part whose error has a follower of its own.
func (c *course) try(part machine, then func(), fault func(api.Errno)) {
	c.part, c.then, c.fault = part, then, fault
}

// anyway leaves them to a part whose error makes no difference.
func (c *course) anyway(part machine, then func()) { c.try(part, then, c.passOver) }

func (c *course) passOver(api.Errno) { c.then() }

// halt leaves nothing to be done.
func (c *course) halt() { *c = course{} }

// giveUp ends the transaction.
func giveUp(e api.Errno) { panic(ending{e}) }
