package redo

import (
	"strata/api"
	"strata/bits"
)

// Log of commits on a device.
type Log struct {
	self     *Log // itself, if Open has made it
	device   *Device
	most     int // bytes of a segment
	batch    int // commits of a frame
	age      int // the device's, when the log was opened
	halted   bool
	ask      func(calls ...func() api.Errno) api.Errno // makes calls of the device; the first refusal ends them, and stops the log
	segments []segment                                 // rising; the last is the present one
	next     uint64
	durable  uint64
	body     []byte // of the frame that the buffer will be
	waiting  uint64 // commits in the buffer
}

func newLog(d *Device, o api.LogOptions) *Log {
	l := &Log{device: d, most: o.Segment, batch: o.Batch, age: d.age}
	l.self = l
	l.ask = func(calls ...func() api.Errno) api.Errno {
		for _, call := range calls {
			if e := call(); e != api.OK {
				l.halted = true
				return e
			}
		}
		return api.OK
	}
	return l
}

// missing tells whether there is no log: a nil one, or one that is not by Open.
func (l *Log) missing() bool { return l == nil || l.self != l }

// stopped tells whether the log may do nothing any more (P11.18).
func (l *Log) stopped() bool { return l.halted || l.age != l.device.age }

// face lets a call of the log do its work, unless there is no log or it has stopped; a refusal of the device, which stops it, is told alike.
func (l *Log) face(work func() api.Errno) api.Errno {
	if l.missing() {
		return api.ErrNil
	}
	if l.stopped() {
		return api.ErrHalt
	}
	e := work()
	if l.halted {
		return api.ErrHalt
	}
	return e
}

// Append takes a commit into the buffer and tells its number (P11.19).
func (l *Log) Append(c api.Commit) (lsn uint64, e api.Errno) {
	e = l.face(func() api.Errno {
		text, e := EncodeCommit(c)
		if e != api.OK {
			return e
		}
		if l.next == api.MaxTime {
			return api.ErrSpace
		}
		lsn = l.next
		return l.take(blob(text))
	})
	if e != api.OK {
		return 0, e
	}
	return lsn, api.OK
}

// take lays a commit into the buffer, which is flushed first if it is full.
func (l *Log) take(text string) api.Errno {
	if l.waiting >= uint64(l.batch) || len(l.body)+len(text) > api.MaxBody {
		if e := l.flush(); e != api.OK {
			return e
		}
	}
	l.body = append(l.body, text...)
	l.waiting++
	l.next++
	return api.OK
}

// Flush puts the buffer as one frame (P11.20).
func (l *Log) Flush() api.Errno { return l.face(l.flush) }

func (l *Log) flush() api.Errno {
	if l.waiting == 0 {
		return api.OK
	}
	e := l.put(api.Frame{Kind: api.FrameData, Lsn: l.next - l.waiting, Body: string(l.body)})
	if e == api.OK {
		l.body, l.waiting = nil, 0
	}
	return e
}

// Sync makes all commits durable and tells which are newly so (P11.21).
func (l *Log) Sync() ([]uint64, api.Errno) {
	var told []uint64
	e := l.face(func() api.Errno {
		if e := l.flush(); e != api.OK {
			return e
		}
		return l.ask(func() api.Errno { return l.device.Sync(l.present().name()) })
	})
	if e != api.OK {
		return nil, e
	}
	for ; l.durable+1 < l.next; l.durable++ {
		told = append(told, l.durable+1)
	}
	return told, api.OK
}

// Mark puts a mark (P11.22).
func (l *Log) Mark(stamp uint64) api.Errno {
	return l.face(func() api.Errno {
		if !isTime(stamp) {
			return api.ErrArg
		}
		if e := l.flush(); e != api.OK {
			return e
		}
		return l.put(api.Frame{Kind: api.FrameMark, Lsn: l.next, Body: bits.Fixed64(stamp)})
	})
}

// Next tells the number of the next commit (P11.23).
func (l *Log) Next() uint64 {
	if l.missing() {
		return 0
	}
	return l.next
}

// Durable tells the last number that is durable (P11.23).
func (l *Log) Durable() uint64 {
	if l.missing() {
		return 0
	}
	return l.durable
}
