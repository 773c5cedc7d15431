package bits_test

import (
	"encoding/binary"
	"strings"
	"testing"

	"strata/api"
	"strata/bits"
)

// plainRow goes by the chapter's words.
func plainRow(l []api.Value) string {
	kinds := make([]byte, (len(l)+3)/4)
	var rest []byte
	for i, v := range l {
		kinds[i/4] += byte(v.Kind) << (2 * (i % 4))
		switch v.Kind {
		case api.KBool:
			rest = append(rest, byte(v.Int))
		case api.KInt:
			rest = binary.AppendVarint(rest, v.Int)
		case api.KText:
			rest = append(binary.AppendUvarint(rest, uint64(len(v.Text))), v.Text...)
		}
	}
	return string([]byte{byte(len(l))}) + string(kinds) + string(rest)
}

func TestRow(t *testing.T) {
	for _, c := range []struct {
		l []api.Value
		s string
	}{
		{nil, "\x00"}, {list(null), "\x01\x00"}, {list(truth(0)), "\x01\x01\x00"}, {list(truth(1)), "\x01\x01\x01"}, {list(integer(-1)), "\x01\x02\x01"}, {list(text("")), "\x01\x03\x00"},
		{list(integer(5), null, text("x")), "\x03\x32\x0a\x01\x78"},
		{list(null, null, null, text("a")), "\x04\xc0\x01a"},
		{list(truth(1), truth(0), integer(-1), text(""), null), "\x05\xe5\x00\x01\x00\x01\x00"},
		{list(null, null, null, null, integer(64)), "\x05\x00\x02\x80\x01"},
		{make([]api.Value, 16), "\x10\x00\x00\x00\x00"},
		{append(make([]api.Value, 15), text("q")), "\x10\x00\x00\x00\xc0\x01q"},
	} {
		if s, e := bits.Row(c.l...); s != c.s || e != api.OK {
			t.Errorf("P1.19: Row(%v) = %x, %d, want %x", c.l, s, e, c.s)
		}
		if l, e := bits.ReadRow(c.s); !same(l, c.l) || e != api.OK {
			t.Errorf("P1.20: ReadRow(%x) = %v, %d, want %v", c.s, l, e, c.l)
		}
	}
	ls := append(anyValues(2000), list(text(strings.Repeat("\x00", 4096))))
	for _, l := range ls {
		s, e := bits.Row(l...)
		if s != plainRow(l) || e != api.OK {
			t.Fatalf("P1.19: Row(%v) = %x, %d, want %x", l, s, e, plainRow(l))
		}
		if back, e := bits.ReadRow(s); !same(back, l) || e != api.OK {
			t.Fatalf("P1.20: %v comes back as %v, %d", l, back, e)
		}
	}
}

func TestReadRowFaults(t *testing.T) {
	x := strings.Repeat
	for _, c := range []struct {
		s string
		e api.Errno
	}{
		{"", api.ErrShort}, {"\x11", api.ErrVals}, {"\xff", api.ErrVals}, {"\x11" + x("\x00", 20), api.ErrVals},
		{"\x01", api.ErrShort}, {"\x04", api.ErrShort}, {"\x05\x00", api.ErrShort}, {"\x05\xff", api.ErrShort}, {"\x10\x00\x00\x00", api.ErrShort},
		{"\x01\x04", api.ErrTag}, {"\x01\x80", api.ErrTag}, {"\x01\x08\xff", api.ErrTag}, {"\x03\x40", api.ErrTag}, {"\x03\x80\x00", api.ErrTag}, {"\x05\x00\x04", api.ErrTag}, {"\x05\x01\x40", api.ErrTag},
		{"\x01\x01", api.ErrShort}, {"\x01\x01\x02", api.ErrTag}, {"\x01\x01\xff\x00", api.ErrTag},
		{"\x01\x03\x81\x20", api.ErrLong}, {"\x01\x03\x81\x20" + x("x", 4097), api.ErrLong}, {"\x01\x03\x80\x20", api.ErrShort}, {"\x01\x03\x80\x20" + x("x", 4095), api.ErrShort}, {"\x01\x03" + x("\xff", 9) + "\x01", api.ErrLong}, {"\x01\x03\x02a", api.ErrShort}, {"\x01\x03\x01", api.ErrShort},
		{"\x00\x00", api.ErrTail}, {"\x01\x00\x00", api.ErrTail}, {"\x01\x01\x01\x01", api.ErrTail}, {"\x01\x02\x02\x02", api.ErrTail}, {"\x01\x03\x01ab", api.ErrTail},
		{"\x02\x05\x02\x80\x00", api.ErrTag}, {"\x02\x06\x80\x00\x02", api.ErrCanon}, {"\x02\x0d\x01\x02a", api.ErrShort},
	} {
		if l, e := bits.ReadRow(c.s); len(l) != 0 || e != c.e {
			t.Errorf("P1.20: ReadRow(%.30x) = %v, %d, want %d", c.s, l, e, c.e)
		}
	}
	for s, want := range wrongVarints() {
		if l, e := bits.ReadRow("\x01\x02" + s); len(l) != 0 || e != want {
			t.Errorf("P1.20: a number of %x: %v, %d, want %d", s, l, e, want)
		}
		if l, e := bits.ReadRow("\x01\x03" + s); len(l) != 0 || e != want {
			t.Errorf("P1.20: a length of %x: %v, %d, want %d", s, l, e, want)
		}
	}
}

// Whatever is read must be the one way in which it is laid down.
func TestRowsAreOneWay(t *testing.T) {
	for _, s := range anyTexts(200000) {
		l, e := bits.ReadRow(s)
		if e != api.OK {
			continue
		}
		if back, e := bits.Row(l...); back != s || e != api.OK {
			t.Fatalf("P1.20: %x is read as %v", s, l)
		}
	}
}

// A row that is cut anywhere lacks something.
func TestCutRows(t *testing.T) {
	for _, l := range anyValues(300) {
		s := plainRow(l)
		for cut := range len(s) {
			if l, e := bits.ReadRow(s[:cut]); len(l) != 0 || e != api.ErrShort {
				t.Fatalf("P1.20: %x, cut behind %d bytes: %v, %d", s, cut, l, e)
			}
		}
	}
}
