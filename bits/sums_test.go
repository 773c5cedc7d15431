package bits_test

import (
	"strings"
	"testing"

	"strata/api"
	"strata/bits"
)

// moved is what the chapter does to a register, so many bits on.
func moved(register uint32, n int) uint32 {
	for range n {
		if register&1 == 1 {
			register = register>>1 ^ 0x82f63b78
		} else {
			register >>= 1
		}
	}
	return register
}

// plainSum goes by the chapter's words, bit by bit, from a sum on.
func plainSum(sum uint32, s string) uint32 {
	register := ^sum
	for i := range len(s) {
		register = moved(register^uint32(s[i]), 8)
	}
	return ^register
}

// mixed is a text of n bytes with all bytes in it.
func mixed(n int) string {
	b := make([]byte, n)
	for i := range b {
		b[i] = byte(i*i + i>>8)
	}
	return string(b)
}

func TestChecksum(t *testing.T) {
	for _, c := range []struct {
		parts []string
		sum   uint32
	}{
		{nil, 0}, {[]string{""}, 0}, {[]string{"", "", ""}, 0},
		{[]string{"123456789"}, 0xe3069283}, {[]string{"", "1", "2345", "", "6789", ""}, 0xe3069283},
		{[]string{strings.Repeat("\x00", 32)}, 0x8a9136aa}, {[]string{strings.Repeat("\xff", 32)}, 0x62a8ab43},
	} {
		if sum := bits.Checksum(c.parts...); sum != c.sum {
			t.Errorf("P1.11: Checksum(%q) = %x, want %x", c.parts, sum, c.sum)
		}
	}
	for b := range 256 {
		s := string([]byte{byte(b)})
		if sum := bits.Checksum(s); sum != plainSum(0, s) {
			t.Errorf("P1.11: Checksum(%x) = %x, want %x", s, sum, plainSum(0, s))
		}
	}
	for _, n := range []int{0, 1, 255, 256, 1023, 1024, 1025, 5000} {
		s := mixed(n)
		if sum := bits.Checksum(s); sum != plainSum(0, s) {
			t.Errorf("P1.11: of %d bytes: %x, want %x", n, sum, plainSum(0, s))
		}
		for _, cut := range []int{0, 1, n / 3, n / 2, n} {
			cut = min(cut, n)
			if sum := bits.Checksum(s[:cut], s[cut:], s); sum != plainSum(0, s+s) {
				t.Errorf("P1.11: of %d bytes, cut at %d: %x", n, cut, sum)
			}
		}
	}
}

func TestExtend(t *testing.T) {
	for _, sum := range []uint32{0, 1, 0x82f63b78, 0xe3069283, 1 << 31, 1<<32 - 1} {
		for _, n := range []int{0, 1, 9, 1023, 1024, 3000} {
			if got, want := bits.Extend(sum, mixed(n)), plainSum(sum, mixed(n)); got != want {
				t.Errorf("P1.12: Extend(%x, %d bytes) = %x, want %x", sum, n, got, want)
			}
		}
	}
	s := mixed(4000)
	for _, cut := range []int{0, 1, 100, 2500, 4000} {
		if sum := bits.Extend(bits.Checksum(s[:cut]), s[cut:]); sum != bits.Checksum(s) {
			t.Errorf("P1.12: cut at %d: %x", cut, sum)
		}
	}
}

func TestCombine(t *testing.T) {
	s := mixed(5000)
	for _, cut := range []int{0, 1, 2, 777, 4096, 4999, 5000} {
		if sum, e := bits.Combine(bits.Checksum(s[:cut]), bits.Checksum(s[cut:]), len(s)-cut); sum != bits.Checksum(s) || e != api.OK {
			t.Errorf("P1.13: cut at %d: %x, %d", cut, sum, e)
		}
	}
	for _, a := range []uint32{0, 1, 7, 0x12345678, 0x82f63b78, 1 << 31, 1<<32 - 1} {
		for _, n := range []int{0, 1, 2, 3, 255, 256, 1000, 65535, 1048575, 1048576} {
			if sum, e := bits.Combine(a, 9, n); sum != moved(a, 8*n)^9 || e != api.OK {
				t.Errorf("P1.13: Combine(%x, 9, %d) = %x, %d", a, n, sum, e)
			}
		}
		for _, n := range []int{-1 << 63, -1, 1048577, 1<<63 - 1} {
			if sum, e := bits.Combine(a, 9, n); sum != 0 || e != api.ErrRange {
				t.Errorf("P1.13: Combine(%x, 9, %d) = %x, %d", a, n, sum, e)
			}
		}
	}
}
