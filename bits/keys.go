package bits

import (
	mathbits "math/bits"

	"strata/api"
)

// The first byte of a value in a key. A number's tells how many bytes follow: so many above tagZero, or below tagMinus.
const (
	tagNull  = 0x10
	tagFalse = 0x20
	tagTrue  = 0x21
	tagMinus = 0x37 // of -1
	tagZero  = 0x38
	tagText  = 0x50
)

// maxInt is the most bytes that a number has behind its first byte.
const maxInt = 8

// What stands behind a byte 0 in a text. The end is less than all that may go on, so that a text comes ahead of those that it begins.
const (
	endOfText = 0x01
	zeroByte  = 0xff
)

// Key tells the bytes of a list whose order is the lists' (P1.16).
func Key(vals ...api.Value) (string, api.Errno) {
	if e := check(vals); e != api.OK {
		return "", e
	}
	var b []byte
	for _, v := range vals {
		b = layoutOf(v.Kind).key(b, v)
	}
	return string(b), api.OK
}

// ReadKey reads what Key told (P1.17).
func ReadKey(s string) ([]api.Value, api.Errno) {
	vals, _, e := read(s, 0, (*reader).key)
	return vals, e
}

// After tells the least text above all that begin with prefix (P1.18).
func After(prefix string) (string, bool) {
	last := len(prefix) - 1
	for last >= 0 && prefix[last] == 0xff {
		last--
	}
	if last < 0 {
		return "", false
	}
	return prefix[:last] + string([]byte{prefix[last] + 1}), true
}

func (r *reader) key() []api.Value {
	var vals []api.Value
	for r.left() > 0 {
		if len(vals) == api.MaxVals {
			panic(api.ErrVals)
		}
		tag := r.nextByte()
		vals = append(vals, layoutOf(kindOfTag(tag)).readKey(r, tag))
	}
	return vals
}

func kindOfTag(tag byte) api.Kind {
	switch {
	case tag == tagNull:
		return api.KNull
	case tag == tagFalse || tag == tagTrue:
		return api.KBool
	case tag >= tagMinus-maxInt && tag <= tagZero+maxInt:
		return api.KInt
	case tag == tagText:
		return api.KText
	}
	panic(api.ErrTag)
}

func nullKey(b []byte, _ api.Value) []byte { return append(b, tagNull) }

func readNullKey(_ *reader, _ byte) api.Value { return api.Value{} }

func boolKey(b []byte, v api.Value) []byte { return append(b, tagFalse+byte(v.Int)) }

func readBoolKey(_ *reader, tag byte) api.Value { return boolValue(tag - tagFalse) }

// intKey lays down the lowest bytes of the number itself on both sides of 0: of one below 0 they are those of -1 - v with every bit turned.
func intKey(b []byte, v api.Value) []byte {
	if v.Int >= 0 {
		n := bytesOf(uint64(v.Int))
		return layHighestFirst(append(b, tagZero+byte(n)), uint64(v.Int), n)
	}
	n := bytesOf(^uint64(v.Int))
	return layHighestFirst(append(b, tagMinus-byte(n)), uint64(v.Int), n)
}

// bytesOf tells the least number of bytes that holds v.
func bytesOf(v uint64) int { return (mathbits.Len64(v) + 7) / 8 }

func layHighestFirst(b []byte, v uint64, n int) []byte {
	for i := n - 1; i >= 0; i-- {
		b = append(b, byte(v>>(8*i)))
	}
	return b
}

func readIntKey(r *reader, tag byte) api.Value {
	if tag >= tagZero {
		return intValue(int64(r.magnitude(int(tag-tagZero), 0)))
	}
	return intValue(^int64(r.magnitude(int(tagMinus-tag), 0xff)))
}

// magnitude takes a number of n bytes, the highest first, each with the bits of turn turned, that must be in its shortest form and below 2^63.
func (r *reader) magnitude(n int, turn byte) uint64 {
	s := r.nextBytes(n)
	var u uint64
	for i := range n {
		u = u<<8 | uint64(s[i]^turn)
	}
	if bytesOf(u) < n {
		panic(api.ErrCanon)
	}
	if u >= 1<<63 {
		panic(api.ErrRange)
	}
	return u
}

func textKey(b []byte, v api.Value) []byte {
	b = append(b, tagText)
	for i := range len(v.Text) {
		b = append(b, v.Text[i])
		if v.Text[i] == 0 {
			b = append(b, zeroByte)
		}
	}
	return append(b, 0, endOfText)
}

func readTextKey(r *reader, _ byte) api.Value {
	var text []byte
	for {
		b := r.nextByte()
		if b == 0 && r.endsText() {
			return textValue(string(text))
		}
		if len(text) == api.MaxText {
			panic(api.ErrLong)
		}
		text = append(text, b)
	}
}

// endsText takes what stands behind a byte 0: the end of the text, or the sign that the byte is the text's own.
func (r *reader) endsText() bool {
	b := r.nextByte()
	if b != endOfText && b != zeroByte {
		panic(api.ErrEscape)
	}
	return b == endOfText
}
