package revive

import (
	"slices"

	"strata/api"
	"strata/image"
	"strata/redo"
)

// log is what the reading of a device's log tells.
type log struct {
	commits []api.Logged
	marks   []uint64
	tail    api.Tail
}

func logOf(d *redo.Device) log {
	commits, marks, tail := redo.Replay(d)
	return log{commits, marks, tail}
}

// first tells the log's first number.
func (l log) first() uint64 {
	if len(l.commits) == 0 {
		return l.tail.Next
	}
	return l.commits[0].Lsn
}

// remains are what a crash has left on a device: the checkpoint and the log.
type remains struct {
	log
	rows []api.Row // the checkpoint's
	upto uint64
}

// remainsOf reads a device: the error of its checkpoint, ErrStale.
func remainsOf(d *redo.Device) (remains, api.Errno) {
	rows, m, e := image.Load(image.Files(d))
	if e != api.OK {
		return remains{}, e
	}
	r := remains{logOf(d), rows, m.Upto}
	there := m.Gen != 0 // a manifest's Upto may be 0
	if r.first() != 1 && (!there || r.isMarkedAbove()) {
		return remains{}, api.ErrStale
	}
	return r, api.OK
}

// isMarkedAbove tells whether the log knows of a checkpoint that was newer than the one which is there.
func (r remains) isMarkedAbove() bool {
	return slices.ContainsFunc(r.marks, func(mark uint64) bool { return mark > r.upto })
}

// above tells the commits that are not in the checkpoint, up to a time.
func (r remains) above(at uint64) []api.Commit {
	var list []api.Commit
	for _, c := range r.commits {
		if c.Commit.Stamp > r.upto && c.Commit.Stamp <= at {
			list = append(list, c.Commit)
		}
	}
	return list
}

// clock tells the greatest timestamp that is told anywhere.
func (r remains) clock() uint64 {
	clock := r.upto
	for _, c := range r.commits {
		clock = max(clock, c.Commit.Stamp)
	}
	for _, mark := range r.marks {
		clock = max(clock, mark)
	}
	return clock
}
