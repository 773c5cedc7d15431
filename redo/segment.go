package redo

import (
	"strata/api"
	"strata/bits"
)

const headLetters = "STRALOG1"

// segment of a log: its number, and that of its first commit.
type segment struct {
	number int
	first  uint64
}

func (s segment) name() string { return segmentName(s.number) }

// head gives the bytes with which the segment's file begins.
func (s segment) head() string {
	head := headLetters + bits.Fixed32(uint32(s.number)) + bits.Fixed64(s.first)
	return head + sumOf(head)
}

// segmentOf reads the head of the segment with that number in its name: the segment and TailClean, or the kind of what is wrong.
func segmentOf(number int, s string) (x segment, kind int) {
	defer func() {
		if fault := recover(); fault != nil {
			x, kind = segment{}, int(fault.(broken))
		}
	}()
	giveUp(len(s) < headSize, api.TailTorn)
	giveUp(s[:len(headLetters)] != headLetters, api.TailMagic)
	giveUp(!isSummed(s[:headSize]), api.TailHead)
	x = segment{number, fixed64(s, 12)}
	giveUp(fixed32(s, 8) != uint32(number) || !isTime(x.first), api.TailForm)
	return x, api.TailClean
}

// begin tells the calls by which a segment begins.
func (d *Device) begin(s segment) []func() api.Errno {
	return []func() api.Errno{
		func() api.Errno { return d.Create(s.name()) },
		func() api.Errno { return d.Append(s.name(), s.head()) },
		func() api.Errno { return d.Sync(s.name()) },
		d.SyncDir,
	}
}
