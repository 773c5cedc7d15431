package bits

import "strata/api"

const (
	moreBit    = 0x80 // of a byte of a Uvarint: another byte follows
	groupBits  = 7
	maxUvarint = 10 // bytes
)

// Uvarint tells the bytes of a number (P1.6).
func Uvarint(v uint64) string { return string(layUvarint(nil, v)) }

// ReadUvarint reads what Uvarint told (P1.7).
func ReadUvarint(s string, at int) (v uint64, next int, e api.Errno) {
	return read(s, at, (*reader).uvarint)
}

// Svarint tells the bytes of a number with sign (P1.8).
func Svarint(v int64) string { return string(laySvarint(nil, v)) }

// ReadSvarint reads what Svarint told (P1.8).
func ReadSvarint(s string, at int) (v int64, next int, e api.Errno) {
	return read(s, at, (*reader).svarint)
}

// Fixed32 tells four bytes, the lowest first (P1.9).
func Fixed32(v uint32) string { return lowestFirst(uint64(v), 4) }

// ReadFixed32 reads what Fixed32 told (P1.9).
func ReadFixed32(s string, at int) (v uint32, next int, e api.Errno) {
	return read(s, at, func(r *reader) uint32 { return uint32(r.lowestFirst(4)) })
}

// Fixed64 tells eight bytes, the lowest first (P1.9).
func Fixed64(v uint64) string { return lowestFirst(v, 8) }

// ReadFixed64 reads what Fixed64 told (P1.9).
func ReadFixed64(s string, at int) (v uint64, next int, e api.Errno) {
	return read(s, at, func(r *reader) uint64 { return r.lowestFirst(8) })
}

// Blob lays a length ahead of bytes (P1.10).
func Blob(s string) (string, api.Errno) {
	if len(s) > api.MaxBlob {
		return "", api.ErrLong
	}
	return Uvarint(uint64(len(s))) + s, api.OK
}

// ReadBlob reads what Blob told (P1.10).
func ReadBlob(s string, at int) (b string, next int, e api.Errno) {
	return read(s, at, func(r *reader) string { return r.blob(api.MaxBlob) })
}

func layUvarint(b []byte, v uint64) []byte {
	for ; v >= moreBit; v >>= groupBits {
		b = append(b, byte(v)|moreBit)
	}
	return append(b, byte(v))
}

func (r *reader) uvarint() uint64 {
	var v uint64
	for n := 0; ; n++ {
		b := r.nextByte()
		if n == maxUvarint-1 && b > 1 {
			panic(api.ErrVarint)
		}
		v |= uint64(b&^moreBit) << (groupBits * n)
		if b >= moreBit {
			continue
		}
		if b == 0 && n > 0 {
			panic(api.ErrCanon)
		}
		return v
	}
}

// laySvarint lays the sign into the lowest bit, so that small numbers of either sign stay short.
func laySvarint(b []byte, v int64) []byte {
	return layUvarint(b, uint64(v)<<1^uint64(v>>63))
}

func (r *reader) svarint() int64 {
	u := r.uvarint()
	return int64(u>>1) ^ -int64(u&1)
}

func lowestFirst(v uint64, n int) string {
	b := make([]byte, n)
	for i := range b {
		b[i] = byte(v >> (8 * i))
	}
	return string(b)
}

func (r *reader) lowestFirst(n int) uint64 {
	s := r.nextBytes(n)
	var v uint64
	for i := range n {
		v |= uint64(s[i]) << (8 * i)
	}
	return v
}

func (r *reader) blob(most int) string {
	n := r.uvarint()
	if n > uint64(most) {
		panic(api.ErrLong)
	}
	return r.nextBytes(int(n))
}
