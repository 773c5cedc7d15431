package revive

import (
	"strings"

	"strata/api"
	"strata/redo"
)

// Standby follows a log.
type Standby struct {
	keys  table
	at    uint64
	clock uint64
	last  string // the bytes of the commit with the number at
}

// NewStandby gives one that has followed nothing (P13.7).
func NewStandby() *Standby { return &Standby{keys: table{}} }

// missing tells whether there is no standby: one that NewStandby did not make has no table.
func (s *Standby) missing() bool { return s == nil || s.keys == nil }

// Catch plays what the log has and the standby has not (P13.8).
func (s *Standby) Catch(d *redo.Device) (int, api.Errno) {
	if s.missing() || missing(d) {
		return 0, api.ErrNil
	}
	l := logOf(d)
	if s.isForked(l) {
		return 0, api.ErrFork
	}
	if l.first() > s.at+1 {
		return 0, api.ErrStale
	}
	n := 0
	for _, c := range l.commits {
		if c.Lsn > s.at {
			s.play(c)
			n++
		}
	}
	return n, api.OK
}

// isForked tells whether a log is not the one that was followed, as far as its number and the last commit show.
func (s *Standby) isForked(l log) bool {
	if s.at >= l.tail.Next {
		return true
	}
	for _, c := range l.commits {
		if c.Lsn == s.at {
			bytes, _ := redo.EncodeCommit(c.Commit)
			return bytes != s.last
		}
	}
	return false
}

// play takes the next commit. Its texts are copied: as they are they may be parts of all that the log tells, which would be kept with them.
func (s *Standby) play(c api.Logged) {
	for _, w := range c.Commit.Writes {
		w.Key, w.Data = strings.Clone(w.Key), strings.Clone(w.Data)
		s.keys.play(pieceOf(c.Commit.Stamp, w))
	}
	s.at = c.Lsn
	s.clock = max(s.clock, c.Commit.Stamp)
	s.last, _ = redo.EncodeCommit(c.Commit)
}

// Rows tells what stands, by key (P13.9).
func (s *Standby) Rows() []api.Row {
	if s.missing() {
		return nil
	}
	return rowsOf(s.keys)
}

// At tells the number of the last commit that it has played (P13.9).
func (s *Standby) At() uint64 {
	if s.missing() {
		return 0
	}
	return s.at
}

// Clock tells the greatest stamp that it has played (P13.9).
func (s *Standby) Clock() uint64 {
	if s.missing() {
		return 0
	}
	return s.clock
}
