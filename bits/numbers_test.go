package bits_test

import (
	"encoding/binary"
	"strings"
	"testing"

	"strata/api"
	"strata/bits"
)

// places are those at which nothing can be read, whatever the text.
func places(s string) []int { return []int{-1 << 63, -1, len(s) + 1, 1<<63 - 1} }

func TestUvarint(t *testing.T) {
	for _, c := range []struct {
		v uint64
		s string
	}{{0, "\x00"}, {127, "\x7f"}, {128, "\x80\x01"}, {300, "\xac\x02"}, {1<<64 - 1, strings.Repeat("\xff", 9) + "\x01"}} {
		if s := bits.Uvarint(c.v); s != c.s {
			t.Errorf("P1.6: Uvarint(%d) = %x, want %x", c.v, s, c.s)
		}
	}
	for _, v := range numbers() {
		if s, want := bits.Uvarint(v), string(binary.AppendUvarint(nil, v)); s != want {
			t.Errorf("P1.6: Uvarint(%d) = %x, want %x", v, s, want)
		}
	}
}

func TestReadUvarint(t *testing.T) {
	for _, v := range numbers() {
		s := bits.Uvarint(v)
		for _, behind := range []string{"", "\x00", "\x80", "\xff"} {
			if u, next, e := bits.ReadUvarint("\x80\x80"+s+behind, 2); u != v || next != 2+len(s) || e != api.OK {
				t.Errorf("P1.7: %d comes back as %d, %d, %d", v, u, next, e)
			}
		}
		for cut := range len(s) {
			if u, next, e := bits.ReadUvarint("ab"+s[:cut], 2); u != 0 || next != 2 || e != api.ErrShort {
				t.Errorf("P1.7: %d, cut behind %d bytes: %d, %d, %d", v, cut, u, next, e)
			}
		}
	}
	if v, next, e := bits.ReadUvarint("\xac\x02", 1); v != 2 || next != 2 || e != api.OK {
		t.Errorf("P1.7: %d, %d, %d", v, next, e)
	}
}

// wrongVarints are texts at whose beginning no varint stands, with the reason.
func wrongVarints() map[string]api.Errno {
	wrong := map[string]api.Errno{
		"": api.ErrShort, "\x80": api.ErrShort, "\xff": api.ErrShort, "\x80\x00": api.ErrCanon, "\xff\x00": api.ErrCanon, "\xff\x80\x00": api.ErrCanon,
	}
	for _, b := range []string{"\x80", "\x81", "\xff"} {
		nine := strings.Repeat(b, 9)
		wrong[nine] = api.ErrShort
		wrong[nine+"\x00"] = api.ErrCanon
		for _, tenth := range []string{"\x02", "\x03", "\x7f", "\x80", "\x81", "\xff"} {
			wrong[nine+tenth] = api.ErrVarint
			wrong[nine+tenth+"\x00"] = api.ErrVarint
		}
	}
	return wrong
}

func TestWrongVarints(t *testing.T) {
	for s, want := range wrongVarints() {
		if v, next, e := bits.ReadUvarint("a"+s, 1); v != 0 || next != 1 || e != want {
			t.Errorf("P1.7: ReadUvarint of %x = %d, %d, %d, want %d", s, v, next, e, want)
		}
		if v, next, e := bits.ReadSvarint("a"+s, 1); v != 0 || next != 1 || e != want {
			t.Errorf("P1.8: ReadSvarint of %x = %d, %d, %d, want %d", s, v, next, e, want)
		}
		if b, next, e := bits.ReadBlob("a"+s, 1); b != "" || next != 1 || e != want {
			t.Errorf("P1.10: ReadBlob of %x = %q, %d, %d, want %d", s, b, next, e, want)
		}
	}
}

// Whatever is read must be the one way in which it is laid down.
func TestVarintsAreShortest(t *testing.T) {
	for a := range 256 {
		for b := range 256 {
			s := string([]byte{byte(a), byte(b)})
			v, next, e := bits.ReadUvarint(s, 0)
			if e == api.OK && bits.Uvarint(v) != s[:next] {
				t.Fatalf("P1.7: %x is read as %d, up to %d", s, v, next)
			}
		}
	}
}

func TestSvarint(t *testing.T) {
	for _, c := range []struct {
		v int64
		s string
	}{{0, "\x00"}, {-1, "\x01"}, {1, "\x02"}, {-2, "\x03"}, {63, "\x7e"}, {-64, "\x7f"}, {64, "\x80\x01"}, {-65, "\x81\x01"}, {1<<63 - 1, "\xfe" + strings.Repeat("\xff", 8) + "\x01"}, {-1 << 63, strings.Repeat("\xff", 9) + "\x01"}} {
		if s := bits.Svarint(c.v); s != c.s {
			t.Errorf("P1.8: Svarint(%d) = %x, want %x", c.v, s, c.s)
		}
	}
	for _, n := range numbers() {
		v := int64(n)
		s := bits.Svarint(v)
		if want := string(binary.AppendVarint(nil, v)); s != want {
			t.Errorf("P1.8: Svarint(%d) = %x, want %x", v, s, want)
		}
		if u, next, e := bits.ReadSvarint("x"+s+"\xff", 1); u != v || next != 1+len(s) || e != api.OK {
			t.Errorf("P1.8: %d comes back as %d, %d, %d", v, u, next, e)
		}
	}
}

func TestFixed(t *testing.T) {
	if s := bits.Fixed32(0x01020384); s != "\x84\x03\x02\x01" {
		t.Errorf("P1.9: %x", s)
	}
	if s := bits.Fixed64(0x0102030405060788); s != "\x88\x07\x06\x05\x04\x03\x02\x01" {
		t.Errorf("P1.9: %x", s)
	}
	for _, v := range numbers() {
		s4, s8 := bits.Fixed32(uint32(v)), bits.Fixed64(v)
		if want := string(binary.LittleEndian.AppendUint32(nil, uint32(v))); s4 != want {
			t.Errorf("P1.9: Fixed32(%d) = %x", uint32(v), s4)
		}
		if want := string(binary.LittleEndian.AppendUint64(nil, v)); s8 != want {
			t.Errorf("P1.9: Fixed64(%d) = %x", v, s8)
		}
		if u, next, e := bits.ReadFixed32("ab"+s4, 2); u != uint32(v) || next != 6 || e != api.OK {
			t.Errorf("P1.9: %d comes back as %d, %d, %d", uint32(v), u, next, e)
		}
		if u, next, e := bits.ReadFixed64("ab"+s8+"c", 2); u != v || next != 10 || e != api.OK {
			t.Errorf("P1.9: %d comes back as %d, %d, %d", v, u, next, e)
		}
	}
	for cut := range 8 {
		s := strings.Repeat("\xff", cut)
		if v, next, e := bits.ReadFixed64("a"+s, 1); v != 0 || next != 1 || e != api.ErrShort {
			t.Errorf("P1.9: ReadFixed64 of %d bytes: %d, %d, %d", cut, v, next, e)
		}
		if v, next, e := bits.ReadFixed32("a"+s, 1); cut < 4 && (v != 0 || next != 1 || e != api.ErrShort) {
			t.Errorf("P1.9: ReadFixed32 of %d bytes: %d, %d, %d", cut, v, next, e)
		}
	}
}

func TestBlob(t *testing.T) {
	for _, n := range []int{0, 1, 127, 128, 16384, 1048575, 1048576} {
		s := strings.Repeat("\xff", n)
		b, e := bits.Blob(s)
		if want := string(binary.AppendUvarint(nil, uint64(n))) + s; b != want || e != api.OK {
			t.Fatalf("P1.10: Blob of %d bytes: %d bytes, %d", n, len(b), e)
		}
		if u, next, e := bits.ReadBlob("x"+b+"y", 1); u != s || next != 1+len(b) || e != api.OK {
			t.Errorf("P1.10: a blob of %d bytes comes back as %d bytes, %d, %d", n, len(u), next, e)
		}
		if n > 0 {
			if u, next, e := bits.ReadBlob("x"+b[:len(b)-1], 1); u != "" || next != 1 || e != api.ErrShort {
				t.Errorf("P1.10: a blob of %d bytes without its last: %d bytes, %d, %d", n, len(u), next, e)
			}
		}
	}
	if b, e := bits.Blob(strings.Repeat("x", 1048577)); b != "" || e != api.ErrLong {
		t.Errorf("P1.10: %d bytes, %d", len(b), e)
	}
	for _, n := range []uint64{1048577, 1 << 31, 1 << 32, 1 << 63, 1<<64 - 1} {
		for _, behind := range []string{"", strings.Repeat("x", 1048577)} {
			if b, next, e := bits.ReadBlob(bits.Uvarint(n)+behind, 0); b != "" || next != 0 || e != api.ErrLong {
				t.Errorf("P1.10: a length of %d: %d bytes, %d, %d", n, len(b), next, e)
			}
		}
	}
}

// A place outside the text comes ahead of all other errors.
func TestPlaces(t *testing.T) {
	for _, s := range []string{"", "\x80", "\x01\x01\x01\x01\x01\x01\x01\x01\x01", strings.Repeat("\xff", 12)} {
		for _, at := range places(s) {
			if v, next, e := bits.ReadUvarint(s, at); v != 0 || next != at || e != api.ErrRange {
				t.Errorf("P1.7: at %d: %d, %d, %d", at, v, next, e)
			}
			if v, next, e := bits.ReadSvarint(s, at); v != 0 || next != at || e != api.ErrRange {
				t.Errorf("P1.8: at %d: %d, %d, %d", at, v, next, e)
			}
			if v, next, e := bits.ReadFixed32(s, at); v != 0 || next != at || e != api.ErrRange {
				t.Errorf("P1.9: at %d: %d, %d, %d", at, v, next, e)
			}
			if v, next, e := bits.ReadFixed64(s, at); v != 0 || next != at || e != api.ErrRange {
				t.Errorf("P1.9: at %d: %d, %d, %d", at, v, next, e)
			}
			if b, next, e := bits.ReadBlob(s, at); b != "" || next != at || e != api.ErrRange {
				t.Errorf("P1.10: at %d: %q, %d, %d", at, b, next, e)
			}
		}
	}
}

// The place just behind the text is one at which a thing may begin, but none does.
func TestPlaceBehindTheText(t *testing.T) {
	s := "\x01\x01"
	if _, next, e := bits.ReadUvarint(s, 2); next != 2 || e != api.ErrShort {
		t.Errorf("P1.7: %d, %d", next, e)
	}
	if _, next, e := bits.ReadSvarint(s, 2); next != 2 || e != api.ErrShort {
		t.Errorf("P1.8: %d, %d", next, e)
	}
	if _, next, e := bits.ReadFixed32(s, 2); next != 2 || e != api.ErrShort {
		t.Errorf("P1.9: %d, %d", next, e)
	}
	if _, next, e := bits.ReadFixed64(s, 2); next != 2 || e != api.ErrShort {
		t.Errorf("P1.9: %d, %d", next, e)
	}
	if _, next, e := bits.ReadBlob(s, 2); next != 2 || e != api.ErrShort {
		t.Errorf("P1.10: %d, %d", next, e)
	}
}
