package redo

import (
	"slices"

	"strata/api"
)

// Trim removes the segments in front that nobody needs (P11.24).
func (l *Log) Trim(lsn uint64) (int, api.Errno) {
	var gone []int
	e := l.face(func() api.Errno {
		gone = l.spare(lsn)
		return l.ask(l.device.removal(gone)...)
	})
	if e != api.OK {
		return 0, e
	}
	l.segments = slices.Clone(l.segments[len(gone):])
	return len(gone), api.OK
}

// spare tells the segments in front that hold nothing above lsn: the first numbers never fall, so the next one behind each of them tells.
func (l *Log) spare(lsn uint64) []int {
	var numbers []int
	for i, s := range l.segments[1:] {
		if s.first > min(lsn, api.MaxTime)+1 {
			break
		}
		numbers = append(numbers, l.segments[i].number)
	}
	return numbers
}
