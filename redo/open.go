package redo

import (
	"slices"

	"strata/api"
)

// Open reads the log of a device and begins a new segment (P11.18).
func Open(d *Device, o api.LogOptions) (*Log, api.Tail, api.Errno) {
	if d.missing() {
		return nil, api.Tail{}, api.ErrNil
	}
	if !mayOpen(o) {
		return nil, api.Tail{}, api.ErrArg
	}
	r := replay(d)
	next := max(r.tail.Next, o.First)
	fresh := segment{number: 1, first: next}
	there := d.segments()
	if n := len(there); n > 0 {
		fresh.number = there[n-1] + 1
	}
	if bytes, files := d.Room(); fresh.number > api.MaxSegments || bytes < headSize || files < 1 {
		return nil, r.tail, api.ErrSpace
	}
	left := r.giving
	if o.First > r.tail.Next {
		left = nil
	}
	d.age++
	l := newLog(d, o)
	l.segments = append(left, fresh)
	l.next, l.durable = next, next-1
	if e := l.ask(l.opening(there)...); e != api.OK {
		return nil, r.tail, e
	}
	return l, r.tail, api.OK
}

func mayOpen(o api.LogOptions) bool {
	return o.Segment >= api.MinSegment && o.Segment <= api.MaxSegment &&
		o.Batch >= 1 && o.Batch <= api.MaxBatch && o.First <= api.MaxTime
}

// opening tells the calls by which a log is opened, where these segments are there. Those that are not the log's go last: behind the new one's SyncDir nothing in them is needed. They go falling, so that what a crash in between leaves of them is their front.
func (l *Log) opening(there []int) []func() api.Errno {
	var calls []func() api.Errno
	for _, number := range there {
		calls = append(calls, func() api.Errno { return l.device.Sync(segmentName(number)) })
	}
	calls = append(calls, l.device.begin(l.present())...)
	var gone []int
	for _, number := range slices.Backward(there) {
		if !l.holds(number) {
			gone = append(gone, number)
		}
	}
	return append(calls, l.device.removal(gone)...)
}

// holds tells whether a segment is one of the log's.
func (l *Log) holds(number int) bool {
	return slices.ContainsFunc(l.segments, func(s segment) bool { return s.number == number })
}

// removal tells the calls by which segments are removed for good; none, if there are none.
func (d *Device) removal(numbers []int) []func() api.Errno {
	var calls []func() api.Errno
	for _, number := range numbers {
		calls = append(calls, func() api.Errno { return d.Remove(segmentName(number)) })
	}
	if len(numbers) > 0 {
		calls = append(calls, d.SyncDir)
	}
	return calls
}
