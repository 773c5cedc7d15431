package version

import (
	"strata/api"
	"strata/chain"
)

// tour is what Find and Free share: it goes along the hash index and looks at the versions of one key.
type tour struct {
	course
	id   int
	key  string
	at   uint64
	walk *chain.Walk[api.Entry]
	meet func() // looks at the version at which the walk stands
}

// set goes on along a walk, with its first access in this step.
func (t *tour) set(walk *chain.Walk[api.Entry]) {
	t.walk = walk
	t.next = t.stroll
	t.stroll()
}

func (t *tour) stroll() {
	if !t.walk.Step() {
		return
	}
	if e := t.walk.Code(); e != api.OK {
		t.finish(e)
		return
	}
	t.arrive()
}

// arrive passes by what is no version of the key: buckets are shared.
func (t *tour) arrive() {
	if t.walk.Slot() == 0 {
		t.goOn()
		return
	}
	entry, e := t.base.Cells.Payload(t.walk.Slot())
	switch {
	case e != api.OK:
		t.finish(e)
	case entry.Name == t.key:
		t.meet()
	default:
		t.goOn()
	}
}

// goOn leaves the next slot to the next step, unless none comes: a walk that is ended is not stepped on.
func (t *tour) goOn() {
	if t.walk.Ended() {
		t.finish(api.OK)
		return
	}
	t.next = t.stroll
}
