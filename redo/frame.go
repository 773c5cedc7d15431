package redo

import (
	"strata/api"
	"strata/bits"
)

const (
	headSize     = 24 // bytes of the head of a frame, and of a segment's
	frameLetters = "SF"
	markSize     = 8 // bytes of the body of a mark
)

// broken is with what reading gives up by a panic: the kind of a tail.
type broken int

// EncodeFrame gives head and body (P11.13).
func EncodeFrame(f api.Frame) (string, api.Errno) {
	if !mayFrame(f.Kind, f.Lsn, len(f.Body)) {
		return "", api.ErrFrame
	}
	head := frameLetters + string([]byte{byte(f.Kind), 0}) +
		bits.Fixed32(uint32(len(f.Body))) + bits.Fixed64(f.Lsn) + bits.Fixed32(bits.Checksum(f.Body))
	return head + sumOf(head) + f.Body, api.OK
}

// mayFrame tells whether there may be a frame of that kind with that number and so many bytes of body.
func mayFrame(kind int, lsn uint64, size int) bool {
	if !isTime(lsn) {
		return false
	}
	switch kind {
	case api.FrameData:
		return size >= 1 && size <= api.MaxBody
	case api.FrameMark:
		return size == markSize
	case api.FrameEnd:
		return size == 0
	}
	return false
}

// DecodeFrame reads the frame at an offset: the frame, the offset behind it, the kind of tail (P11.14).
func DecodeFrame(s string, at int) (f api.Frame, next int, kind int) {
	defer func() {
		if fault := recover(); fault != nil {
			f, next, kind = api.Frame{}, at, int(fault.(broken))
		}
	}()
	if at < 0 || at > len(s) {
		panic(broken(api.TailTorn))
	}
	f = frameOf(s[at:])
	return f, at + headSize + len(f.Body), api.TailClean
}

// frameOf reads the frame with which s begins. What the head says is believed only behind its sum.
func frameOf(s string) api.Frame {
	giveUp(len(s) < headSize, api.TailTorn)
	giveUp(s[:2] != frameLetters, api.TailMagic)
	giveUp(!isSummed(s[:headSize]), api.TailHead)
	size := int(fixed32(s, 4))
	f := api.Frame{Kind: int(s[2]), Lsn: fixed64(s, 8)}
	giveUp(s[3] != 0 || !mayFrame(f.Kind, f.Lsn, size), api.TailForm)
	giveUp(len(s)-headSize < size, api.TailTorn)
	f.Body = s[headSize : headSize+size]
	giveUp(fixed32(s, 16) != bits.Checksum(f.Body), api.TailBody)
	return f
}

func giveUp(fault bool, kind int) {
	if fault {
		panic(broken(kind))
	}
}

// sumOf tells the bytes of a sum.
func sumOf(s string) string { return bits.Fixed32(bits.Checksum(s)) }

// isSummed tells whether the last four bytes of a head are the sum of those ahead of them.
func isSummed(head string) bool {
	end := len(head) - 4
	return head[end:] == sumOf(head[:end])
}

// fixed32 and fixed64 take numbers from places that are there.
func fixed32(s string, at int) uint32 {
	v, _, _ := bits.ReadFixed32(s, at)
	return v
}

func fixed64(s string, at int) uint64 {
	v, _, _ := bits.ReadFixed64(s, at)
	return v
}
