package bits_test

import (
	"hash/fnv"
	mathbits "math/bits"
	"strings"
	"testing"

	"strata/bits"
)

func TestHash(t *testing.T) {
	if h := bits.Hash(""); h != 14695981039346656037 {
		t.Errorf("P1.21: Hash of no byte = %d", h)
	}
	if h := bits.Hash("a"); h != 12638187200555641996 {
		t.Errorf("P1.21: Hash(a) = %d", h)
	}
	for _, s := range append(anyTexts(1000), "\x00", "\xff", "é", strings.Repeat("\x80", 5000)) {
		want := fnv.New64a()
		want.Write([]byte(s))
		if h := bits.Hash(s); h != want.Sum64() {
			t.Fatalf("P1.21: Hash(%x) = %d, want %d", s, h, want.Sum64())
		}
	}
}

func TestHeight(t *testing.T) {
	for _, c := range []struct {
		key          string
		levels, want int
	}{
		{"a", 4, 1}, {"b", 4, 2}, {"q", 4, 3}, {"zz", 4, 4}, {"", 4, 2},
		{"zz", 3, 3}, {"zz", 2, 2}, {"zz", 1, 1}, {"zz", 0, 0}, {"zz", -1, 0}, {"zz", -1 << 63, 0},
		// 23 zeros below the 1, and none but zeros, of 24 bits.
		{"h23346861", 1<<63 - 1, 24}, {"h23346861", 23, 23}, {"h20647700", 1<<63 - 1, 25}, {"h20647700", 25, 25}, {"h20647700", 24, 24}, {"h20647700", 4, 4},
	} {
		if n := bits.Height(c.key, c.levels); n != c.want {
			t.Errorf("P1.22: Height(%q, %d) = %d, want %d", c.key, c.levels, n, c.want)
		}
	}
	for _, s := range anyTexts(2000) {
		x := uint32(bits.Hash(s) * 11400714819323198485 >> 40)
		want := 1 + mathbits.TrailingZeros32(x|1<<24)
		for _, levels := range []int{1, 2, 3, 4, 30} {
			if n := bits.Height(s, levels); n != min(want, levels) {
				t.Fatalf("P1.22: Height(%x, %d) = %d, want %d", s, levels, n, min(want, levels))
			}
		}
	}
}
