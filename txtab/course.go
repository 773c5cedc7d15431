package txtab

import "strata/api"

// course is what all machines share: the method that makes the next access, whether it is done, and how it ended.
type course struct {
	table *Table
	next  func()
	done  bool
	code  api.Errno
}

// step makes the next access, and what is local behind it; true: none is left. A machine that no table has made never had one.
func (c *course) step() bool {
	if c.next != nil {
		c.next()
	}
	return c.next == nil
}

// told tells the code; a machine that no table has made has nothing to tell.
func (c *course) told() api.Errno {
	if c.table == nil {
		return api.ErrNil
	}
	return c.code
}

// well tells whether the machine has come to what it was to find: until then it tells nothing.
func (c *course) well() bool { return c.done && c.code == api.OK }

// finish leaves no access to be made.
func (c *course) finish(e api.Errno) { c.next, c.done, c.code = nil, true, e }

// goOn leaves the next access to the next step, unless the last one has answered an error: that is the machine's end.
func (c *course) goOn(e api.Errno, next func()) {
	if e != api.OK {
		c.finish(e)
		return
	}
	c.next = next
}
