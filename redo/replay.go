package redo

import (
	"iter"

	"strata/api"
)

// Replay tells all commits with their numbers, all marks, and where the log ends (P11.16).
func Replay(d *Device) ([]api.Logged, []uint64, api.Tail) {
	r := replay(d)
	return r.commits, r.marks, r.tail
}

// Since goes over the commits with a number above lsn (P11.17).
func Since(d *Device, lsn uint64) iter.Seq2[uint64, api.Commit] {
	return func(yield func(uint64, api.Commit) bool) {
		for _, c := range replay(d).commits {
			if c.Lsn > lsn && !yield(c.Lsn, c.Commit) {
				return
			}
		}
	}
}

// reading is what was read of a log so far.
type reading struct {
	commits []api.Logged
	marks   []uint64
	tail    api.Tail
	next    uint64    // the number of the next commit; 0: it is not known
	giving  []segment // those that gave a commit or a mark
}

func replay(d *Device) *reading {
	r := &reading{}
	if !d.missing() {
		r.over(d)
	}
	r.tail.Next = max(r.next, 1)
	return r
}

// over looks at the segments of a device up to the first that does not follow.
func (r *reading) over(d *Device) {
	for _, number := range d.segments() {
		text := string(d.directory[segmentName(number)].bytes)
		r.tail = api.Tail{Segment: number}
		r.tail.Kind, r.tail.Offset = r.segment(number, text)
		if r.tail.Kind == api.TailGap {
			return
		}
	}
}

// segment reads one segment, and tells how and where that ended.
func (r *reading) segment(number int, text string) (kind, offset int) {
	s, kind := segmentOf(number, text)
	if kind != api.TailClean {
		return kind, 0
	}
	if r.next != 0 && r.next != s.first {
		return api.TailGap, 0
	}
	r.next = s.first
	told := len(r.commits) + len(r.marks)
	kind, offset = r.frames(text)
	if len(r.commits)+len(r.marks) > told {
		r.giving = append(r.giving, s)
	}
	return kind, offset
}

// frames reads the frames of a segment up to its end, or to the first that is none or does not follow.
func (r *reading) frames(text string) (kind, offset int) {
	for at := headSize; at < len(text); {
		f, behind, kind := DecodeFrame(text, at)
		switch {
		case kind != api.TailClean:
			return kind, at
		case f.Lsn != r.next:
			return api.TailOrder, at
		case f.Kind == api.FrameEnd:
			return api.TailClean, behind
		case !r.tell(f):
			return api.TailForm, at
		}
		at = behind
	}
	return api.TailClean, len(text)
}

// tell takes what a mark or a data frame tells; false: its body says what may not be.
func (r *reading) tell(f api.Frame) bool {
	if f.Kind == api.FrameMark {
		stamp := fixed64(f.Body, 0)
		if !isTime(stamp) {
			return false
		}
		r.marks = append(r.marks, stamp)
		return true
	}
	list, e := FrameCommits(f.Body)
	if e != api.OK || uint64(len(list)) > api.MaxTime-r.next {
		return false
	}
	for _, c := range list {
		r.commits = append(r.commits, api.Logged{Lsn: r.next, Commit: c})
		r.next++
	}
	return true
}
