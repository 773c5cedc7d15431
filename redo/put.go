package redo

import "strata/api"

// present is the segment into which the log writes.
func (l *Log) present() segment { return l.segments[len(l.segments)-1] }

// put writes a frame into the present segment, or into a new one if it would get too long there (P11.20).
func (l *Log) put(f api.Frame) api.Errno {
	text, _ := EncodeFrame(f)
	turns := l.turns(len(text))
	if !l.fits(len(text), turns) {
		return api.ErrSpace
	}
	if turns {
		if e := l.turn(f.Lsn); e != api.OK {
			return e
		}
	}
	return l.ask(func() api.Errno { return l.device.Append(l.present().name(), text) })
}

// turns tells whether a frame of so many bytes begins a new segment: room for an end is left in the present one.
func (l *Log) turns(frame int) bool {
	size := l.device.size(l.present().name())
	return size > headSize && size+frame+headSize > l.most
}

// fits tells whether there is room for a frame of so many bytes and, if the log turns, for an end, a new segment and its head.
func (l *Log) fits(frame int, turns bool) bool {
	bytes, files := l.device.Room()
	if !turns {
		return bytes >= frame
	}
	return bytes >= frame+2*headSize && files >= 1 && l.present().number < api.MaxSegments
}

// turn ends the present segment, and begins one behind it whose first commit has that number.
func (l *Log) turn(lsn uint64) api.Errno {
	old := l.present()
	end, _ := EncodeFrame(api.Frame{Kind: api.FrameEnd, Lsn: lsn})
	fresh := segment{number: old.number + 1, first: lsn}
	calls := []func() api.Errno{
		func() api.Errno { return l.device.Append(old.name(), end) },
		func() api.Errno { return l.device.Sync(old.name()) },
	}
	l.segments = append(l.segments, fresh)
	return l.ask(append(calls, l.device.begin(fresh)...)...)
}
