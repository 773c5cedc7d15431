package bits

import (
	"sync"

	"strata/api"
)

const (
	polynomial uint32 = 0x82f63b78
	// byteOn is what x to the power of 8 is among the sums: their highest bit is x to the power of 0.
	byteOn uint32 = 1 << (31 - 8)
	// longText is where making the wide table begins to pay.
	longText = 1024
)

// halfBytes tells what becomes of a register that holds its index, moved on by four bits.
var halfBytes = [16]uint32{
	0x00000000, 0x105ec76f, 0x20bd8ede, 0x30e349b1,
	0x417b1dbc, 0x5125dad3, 0x61c69362, 0x7198540d,
	0x82f63b78, 0x92a8fc17, 0xa24bb5a6, 0xb21572c9,
	0xc38d26c4, 0xd3d3e1ab, 0xe330a81a, 0xf36e6f75,
}

// Checksum tells the CRC-32C of parts joined (P1.11).
func Checksum(parts ...string) uint32 {
	var t summer
	register := ^uint32(0)
	for _, s := range parts {
		register = t.over(register, s)
	}
	return ^register
}

// Extend tells the sum of what gave sum, with s behind it (P1.12).
func Extend(sum uint32, s string) uint32 {
	var t summer
	return ^t.over(^sum, s)
}

// Combine tells the sum of two parts joined from their sums, the second of n bytes (P1.13).
func Combine(a, b uint32, n int) (uint32, api.Errno) {
	if n < 0 || n > api.MaxSum {
		return 0, api.ErrRange
	}
	for power := byteOn; n > 0; n >>= 1 {
		if n&1 == 1 {
			a = times(a, power)
		}
		power = times(power, power)
	}
	return a ^ b, api.OK
}

// summer serves one call. Its wide table is made for the first long text, if one comes, and serves those behind it too.
type summer struct {
	widened sync.Once
	wide    [256]uint32
}

func (t *summer) over(register uint32, s string) uint32 {
	if len(s) < longText {
		for i := range len(s) {
			register = moveByte(register ^ uint32(s[i]))
		}
		return register
	}
	t.widened.Do(t.widen)
	for i := range len(s) {
		register = t.wide[byte(register)^s[i]] ^ register>>8
	}
	return register
}

func (t *summer) widen() {
	for b := range t.wide {
		t.wide[b] = moveByte(uint32(b))
	}
}

func moveByte(register uint32) uint32 {
	register = halfBytes[register&15] ^ register>>4
	return halfBytes[register&15] ^ register>>4
}

func moveBit(register uint32) uint32 {
	if register&1 == 1 {
		return register>>1 ^ polynomial
	}
	return register >> 1
}

// times multiplies two sums as polynomials: moving on by one bit multiplies by x, so moving on by n bytes is one product with x to the power of 8n.
func times(a, b uint32) uint32 {
	var product uint32
	for ; a != 0; a <<= 1 {
		if a>>31 == 1 {
			product ^= b
		}
		b = moveBit(b)
	}
	return product
}
