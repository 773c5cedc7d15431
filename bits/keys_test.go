package bits_test

import (
	"strings"
	"testing"

	"strata/api"
	"strata/bits"
)

func TestKey(t *testing.T) {
	for _, c := range []struct {
		l []api.Value
		s string
	}{
		{nil, ""}, {list(null), "\x10"}, {list(truth(0)), "\x20"}, {list(truth(1)), "\x21"},
		{list(integer(0)), "\x38"}, {list(integer(1)), "\x39\x01"}, {list(integer(255)), "\x39\xff"}, {list(integer(256)), "\x3a\x01\x00"}, {list(integer(65536)), "\x3b\x01\x00\x00"}, {list(integer(1 << 56)), "\x40\x01\x00\x00\x00\x00\x00\x00\x00"}, {list(integer(1<<63 - 1)), "\x40\x7f\xff\xff\xff\xff\xff\xff\xff"},
		{list(integer(-1)), "\x37"}, {list(integer(-2)), "\x36\xfe"}, {list(integer(-256)), "\x36\x00"}, {list(integer(-257)), "\x35\xfe\xff"}, {list(integer(-65536)), "\x35\x00\x00"}, {list(integer(-65537)), "\x34\xfe\xff\xff"}, {list(integer(-1 << 63)), "\x2f\x80\x00\x00\x00\x00\x00\x00\x00"},
		{list(text("")), "\x50\x00\x01"}, {list(text("a\x00b"), truth(1)), "\x50\x61\x00\xff\x62\x00\x01\x21"}, {list(text("\x00\xff\x01")), "\x50\x00\xff\xff\x01\x00\x01"},
		{list(text(strings.Repeat("\x00", 4096))), "\x50" + strings.Repeat("\x00\xff", 4096) + "\x00\x01"},
		{make([]api.Value, 16), strings.Repeat("\x10", 16)},
	} {
		if s, e := bits.Key(c.l...); s != c.s || e != api.OK {
			t.Errorf("P1.16: Key(%v) = %x, %d, want %x", c.l, s, e, c.s)
		}
		if l, e := bits.ReadKey(c.s); !same(l, c.l) || e != api.OK {
			t.Errorf("P1.17: ReadKey(%x) = %v, %d, want %v", c.s, l, e, c.l)
		}
	}
}

// Key and Row refuse the same lists for the same reasons.
func TestRefusedLists(t *testing.T) {
	long := text(strings.Repeat("x", 4097))
	wrong := api.Value{Kind: 4}
	cases := map[api.Errno][][]api.Value{
		api.ErrVals:  {make([]api.Value, 17), make([]api.Value, 1000), append(make([]api.Value, 16), long), append(list(wrong, long), make([]api.Value, 15)...)},
		api.ErrLong:  {list(long), list(long, wrong), list(null, integer(1), text("a"), long, wrong), append(make([]api.Value, 15), long), list(text(strings.Repeat("\x00", 4097)))},
		api.ErrValue: {list(wrong, long), list(null, wrong, long), append(make([]api.Value, 15), wrong)},
	}
	for _, v := range wrongValues() {
		cases[api.ErrValue] = append(cases[api.ErrValue], list(v), list(text("a"), v, long))
	}
	for want, ls := range cases {
		for _, l := range ls {
			if s, e := bits.Key(l...); s != "" || e != want {
				t.Errorf("P1.16: Key(%.80v) = %.20x, %d, want %d", l, s, e, want)
			}
			if s, e := bits.Row(l...); s != "" || e != want {
				t.Errorf("P1.19: Row(%.80v) = %.20x, %d, want %d", l, s, e, want)
			}
		}
	}
}

func TestKeysStandInOrder(t *testing.T) {
	ls := anyValues(300)
	for _, v := range rising() {
		ls = append(ls, list(v), list(v, null), list(v, text("\xff")))
	}
	keys := make([]string, len(ls))
	for i, l := range ls {
		keys[i] = key(t, l)
	}
	for i, a := range ls {
		for j, b := range ls {
			if c := strings.Compare(keys[i], keys[j]); c != bits.Compare(a, b) {
				t.Fatalf("P1.16: %v, %v stand as %d, their keys as %d", a, b, bits.Compare(a, b), c)
			}
			begins := len(a) <= len(b) && same(a, b[:len(a)])
			if strings.HasPrefix(keys[j], keys[i]) != begins {
				t.Fatalf("P1.16: %v, %v: the first key begins the second: %v", a, b, !begins)
			}
		}
	}
}

func TestReadKeyFaults(t *testing.T) {
	x := strings.Repeat
	full := x("\x10", 16)
	for _, c := range []struct {
		s string
		e api.Errno
	}{
		{"\x39", api.ErrShort}, {"\x3a\x01", api.ErrShort}, {"\x40" + x("\x01", 7), api.ErrShort}, {"\x3a\x00", api.ErrShort}, {"\x40\x80", api.ErrShort}, {"\x36", api.ErrShort}, {"\x2f" + x("\x01", 7), api.ErrShort}, {"\x35\xff", api.ErrShort},
		{"\x39\x00", api.ErrCanon}, {"\x3a\x00\x01", api.ErrCanon}, {"\x40\x00" + x("\xff", 7), api.ErrCanon}, {"\x36\xff", api.ErrCanon}, {"\x35\xff\x00", api.ErrCanon}, {"\x2f\xff" + x("\x00", 7), api.ErrCanon},
		{"\x40\x80" + x("\x00", 7), api.ErrRange}, {"\x40" + x("\xff", 8), api.ErrRange}, {"\x2f\x7f" + x("\xff", 7), api.ErrRange}, {"\x2f" + x("\x00", 8), api.ErrRange},
		{"\x50", api.ErrShort}, {"\x50a", api.ErrShort}, {"\x50a\x00", api.ErrShort}, {"\x50\x00\xff", api.ErrShort}, {"\x50\x00\xff\x00", api.ErrShort},
		{"\x50\x00\x00", api.ErrEscape}, {"\x50a\x00\x02", api.ErrEscape}, {"\x50a\x00\xfe\x00\x01", api.ErrEscape}, {"\x50\x00\x10", api.ErrEscape},
		{"\x50" + x("x", 4096), api.ErrShort}, {"\x50" + x("x", 4096) + "\x00", api.ErrShort}, {"\x50" + x("x", 4097), api.ErrLong}, {"\x50" + x("x", 4097) + "\x00\x01", api.ErrLong}, {"\x50" + x("x", 4096) + "\x00\xff", api.ErrLong}, {"\x50" + x("\x00\xff", 4097), api.ErrLong}, {"\x50" + x("x", 4096) + "\x00\x02", api.ErrEscape}, {"\x50" + x("x", 4097) + "\x00\x02", api.ErrLong},
		{full + "\x10", api.ErrVals}, {full + "\x00", api.ErrVals}, {full + "\x39", api.ErrVals}, {x("\x10", 15) + "\x39", api.ErrShort}, {x("\x10", 15) + "\x00\x10", api.ErrTag},
		{"\x10\x39\x00\xff", api.ErrCanon}, {"\x10\xff\x39\x00", api.ErrTag}, {"\x50a\x00\x01\x00", api.ErrTag},
	} {
		if l, e := bits.ReadKey(c.s); len(l) != 0 || e != c.e {
			t.Errorf("P1.17: ReadKey(%.30x) = %v, %d, want %d", c.s, l, e, c.e)
		}
	}
}

func TestReadKeyTags(t *testing.T) {
	for b := range 256 {
		var want api.Errno
		switch {
		case b == 0x10, b == 0x20, b == 0x21, b == 0x37, b == 0x38:
			want = api.OK
		case b >= 0x2f && b <= 0x40, b == 0x50:
			want = api.ErrShort
		default:
			want = api.ErrTag
		}
		if _, e := bits.ReadKey(string([]byte{byte(b)})); e != want {
			t.Errorf("P1.17: the first byte %x: %d, want %d", b, e, want)
		}
	}
}

func TestKeysComeBack(t *testing.T) {
	for _, l := range anyValues(2000) {
		if back, e := bits.ReadKey(key(t, l)); !same(back, l) || e != api.OK {
			t.Fatalf("P1.17: %v comes back as %v, %d", l, back, e)
		}
	}
}

// Whatever is read must be the one way in which it is laid down.
func TestKeysAreOneWay(t *testing.T) {
	for _, s := range anyTexts(200000) {
		if l, e := bits.ReadKey(s); e == api.OK && key(t, l) != s {
			t.Fatalf("P1.17: %x is read as %v", s, l)
		}
	}
}

func TestAfter(t *testing.T) {
	for _, c := range []struct {
		prefix, s string
		ok        bool
	}{
		{"", "", false}, {"\xff", "", false}, {strings.Repeat("\xff", 300), "", false},
		{"a", "b", true}, {"a\xff", "b", true}, {"a\xff\xff", "b", true}, {"\xffa", "\xffb", true}, {"\xff\x00\xff", "\xff\x01", true}, {"\x00", "\x01", true}, {"a\x00", "a\x01", true}, {"\xfe", "\xff", true}, {"a\xfe\xff", "a\xff", true}, {"\x7f", "\x80", true}, {"é", "\xc3\xaa", true},
	} {
		if s, ok := bits.After(c.prefix); s != c.s || ok != c.ok {
			t.Errorf("P1.18: After(%q) = %q, %v, want %q, %v", c.prefix, s, ok, c.s, c.ok)
		}
	}
}

// The least text is found here among all texts of at most two bytes.
func TestAfterIsTheLeast(t *testing.T) {
	var shorts []string
	for a := range 256 {
		shorts = append(shorts, string([]byte{byte(a)}))
		for b := range 256 {
			shorts = append(shorts, string([]byte{byte(a), byte(b)}))
		}
	}
	for _, prefix := range shorts {
		s, ok := bits.After(prefix)
		if !ok {
			if strings.Trim(prefix, "\xff") != "" {
				t.Fatalf("P1.18: After(%x) tells that there is none", prefix)
			}
			continue
		}
		if last := prefix + strings.Repeat("\xff", 9); s <= last {
			t.Fatalf("P1.18: After(%x) = %x is not above %x", prefix, s, last)
		}
		below := []byte(s)
		below[len(below)-1]--
		if !strings.HasPrefix(prefix, string(below)) {
			t.Fatalf("P1.18: After(%x) = %x is not the least", prefix, s)
		}
	}
}
