package chain

import "strata/api"

// job is what a machine has that comes to an end: the next thing to do, and how it ended.
type job struct {
	next func() bool
	code api.Errno
}

// done ends the job; it is the answer of the step that does so.
func (j *job) done(e api.Errno) bool {
	j.code = e
	j.next = j.rest
	return true
}

func (j *job) rest() bool { return true }

// goOn leaves the rest to the next step; it is the answer of the step that does so.
func (j *job) goOn(next func() bool) bool {
	j.next = next
	return false
}
