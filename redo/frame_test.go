package redo_test

import (
	"fmt"
	"math"
	"strings"
	"testing"

	"strata/api"
	"strata/redo"
)

// rightFrames are such as may be.
func rightFrames() []api.Frame {
	return []api.Frame{
		{Kind: 1, Lsn: 1, Body: "x"},
		{Kind: 1, Lsn: 9, Body: "some body"},
		{Kind: 1, Lsn: api.MaxTime, Body: strings.Repeat("\x00", api.MaxBody)},
		{Kind: 1, Lsn: 1 << 40, Body: "12345678"},
		{Kind: 2, Lsn: 1, Body: "12345678"},
		{Kind: 2, Lsn: api.MaxTime, Body: strings.Repeat("\x00", 8)},
		{Kind: 3, Lsn: 7},
		{Kind: 3, Lsn: api.MaxTime},
	}
}

// wrongFrames are such as may not be.
func wrongFrames() []api.Frame {
	var w []api.Frame
	for _, kind := range append(strange(), 4, 257, 258, 259) {
		for _, body := range []string{"", "1", "12345678"} {
			if kind < 1 || kind > 3 {
				w = append(w, api.Frame{Kind: kind, Lsn: 1, Body: body})
			}
		}
	}
	for _, lsn := range []uint64{0, api.MaxTime + 1, 1 << 63, math.MaxUint64} {
		w = append(w, api.Frame{Kind: 1, Lsn: lsn, Body: "1"}, api.Frame{Kind: 2, Lsn: lsn, Body: "12345678"}, api.Frame{Kind: 3, Lsn: lsn})
	}
	for _, n := range []int{0, 1, 7, 9, 16, api.MaxBody} {
		w = append(w, api.Frame{Kind: 2, Lsn: 1, Body: strings.Repeat("b", n)})
	}
	for _, n := range []int{1, 8, api.MaxBody} {
		w = append(w, api.Frame{Kind: 3, Lsn: 1, Body: strings.Repeat("b", n)})
	}
	return append(w, api.Frame{Kind: 1, Lsn: 1}, api.Frame{Kind: 1, Lsn: 1, Body: strings.Repeat("b", api.MaxBody+1)}, api.Frame{Kind: 1, Lsn: 1, Body: strings.Repeat("b", 1<<21)})
}

func plain(f api.Frame) string { return frameOf(byte(f.Kind), f.Lsn, f.Body) }

// P11.13
func TestEncodeFrame(t *testing.T) {
	for i, f := range rightFrames() {
		s, e := redo.EncodeFrame(f)
		want(t, fmt.Sprint("P11.13: ", i), []any{s, e}, []any{plain(f), api.OK})
	}
	for i, f := range wrongFrames() {
		s, e := redo.EncodeFrame(f)
		want(t, fmt.Sprintf("P11.13: wrong %d: kind %d, %d, %d bytes", i, f.Kind, f.Lsn, len(f.Body)), []any{s, e}, []any{"", api.ErrFrame})
	}
}

// tail holds what DecodeFrame tells of what is no frame.
func tail(t *testing.T, what, s string, at, right int) {
	t.Helper()
	if f, next, kind := redo.DecodeFrame(s, at); f != (api.Frame{}) || next != at || kind != right {
		t.Errorf("P11.14: %s: %.50v, %d, %d, want %d, %d", what, f, next, kind, at, right)
	}
}

// P11.14: frames at every offset.
func TestDecodeFrame(t *testing.T) {
	all, text := rightFrames(), ""
	var places []int
	for _, f := range all {
		places = append(places, len(text))
		text += plain(f)
	}
	for i, f := range all {
		for _, s := range []string{text, text[:places[i]] + plain(f)} {
			got, next, kind := redo.DecodeFrame(s, places[i])
			if got != f || next != places[i]+24+len(f.Body) || kind != api.TailClean {
				t.Errorf("P11.14: frame %d at %d: %d, %d", i, places[i], next, kind)
			}
		}
	}
	small := plain(all[1])
	for at := range 40 {
		got, next, kind := redo.DecodeFrame(strings.Repeat("S", at)+small+"SF", at)
		want(t, "P11.14: at any offset", []any{got, next, kind}, []any{all[1], at + len(small), api.TailClean})
	}
	for _, at := range strange() {
		if at < 0 || at > len(small)-24 {
			tail(t, fmt.Sprint("at ", at), small, at, api.TailTorn)
		}
	}
	tail(t, "no byte", "", 0, api.TailTorn)
	for n := range small {
		tail(t, fmt.Sprint("cut at ", n), small[:n], 0, api.TailTorn)
		tail(t, fmt.Sprint("cut at ", n), "xyz"+small[:n], 3, api.TailTorn)
	}
	for at := len(text) - 23; at < len(text)+3; at++ {
		tail(t, "at the end", text, at, api.TailTorn)
	}
}

// Heads whose sum is right and that say what may not be.
func TestDecodeForm(t *testing.T) {
	head := func(letters string, kind, zero byte, size uint32, lsn uint64, body string) string {
		h := letters + string([]byte{kind, zero}) + fixed32(size) + fixed64(lsn) + sum(body)
		return h + sum(h)
	}
	for what, s := range map[string]string{
		"byte 3":                 head("SF", 1, 1, 3, 1, "abc") + "abc",
		"byte 3 of 255":          head("SF", 3, 255, 0, 1, ""),
		"kind 0":                 head("SF", 0, 0, 0, 1, ""),
		"kind 4":                 head("SF", 4, 0, 3, 1, "abc") + "abc",
		"kind 255":               head("SF", 255, 0, 8, 1, "12345678") + "12345678",
		"Lsn 0":                  head("SF", 1, 0, 3, 0, "abc") + "abc",
		"Lsn above MaxTime":      head("SF", 1, 0, 3, api.MaxTime+1, "abc") + "abc",
		"the greatest Lsn":       head("SF", 3, 0, 0, math.MaxUint64, ""),
		"data of no byte":        head("SF", 1, 0, 0, 1, ""),
		"data above MaxBody":     head("SF", 1, 0, api.MaxBody+1, 1, strings.Repeat("x", api.MaxBody+1)) + strings.Repeat("x", api.MaxBody+1),
		"data above, not there":  head("SF", 1, 0, math.MaxUint32, 1, "abc") + "abc",
		"a mark of 7":            head("SF", 2, 0, 7, 1, "1234567") + "1234567",
		"a mark of 9":            head("SF", 2, 0, 9, 1, "123456789") + "123456789",
		"a mark of none":         head("SF", 2, 0, 0, 1, ""),
		"an end of 1":            head("SF", 3, 0, 1, 1, "x") + "x",
		"an end of 8, not there": head("SF", 3, 0, 8, 1, "12345678"),
		"form ahead of torn":     head("SF", 2, 0, 9, 1, "123456789"),
		"form ahead of the body": head("SF", 4, 0, 3, 1, "abd") + "abc",
	} {
		tail(t, what, s, 0, api.TailForm)
		tail(t, what, "ab"+s, 2, api.TailForm)
		tail(t, what+": the head's sum ahead", turned(s, 20, 1), 0, api.TailHead)
		tail(t, what+": the letters ahead", turned(s, 0, 1), 0, api.TailMagic)
		tail(t, what+": torn ahead", s[:23], 0, api.TailTorn)
	}
	good := head("SF", 1, 0, 3, 1, "abc")
	tail(t, "the body is not whole", good+"ab", 0, api.TailTorn)
	tail(t, "torn ahead of the body's sum", good+"xy", 0, api.TailTorn)
	tail(t, "the body", good+"abd", 0, api.TailBody)
	tail(t, "the letters", "SG"+good[2:], 0, api.TailMagic)
	tail(t, "the letters, of a text that is too short", "SG"+good[2:23], 0, api.TailTorn)
	tail(t, "letters of another head", "sf"+good[2:], 0, api.TailMagic)
	tail(t, "letters ahead of the sum", strings.Repeat("\x00", 24), 0, api.TailMagic)
	tail(t, "the sum", "SF"+strings.Repeat("\x00", 22), 0, api.TailHead)
	if f, next, kind := redo.DecodeFrame(good+"abc", 0); f.Body != "abc" || next != 27 || kind != 0 {
		t.Errorf("P11.14: %v, %d, %d", f, next, kind)
	}
}

// P11.26: every byte of a frame turned by every number.
func TestTurnedFrame(t *testing.T) {
	for i, f := range rightFrames() {
		s := plain(f)
		if len(s) > 1000 {
			continue
		}
		for at := range s {
			right := api.TailHead
			if at < 2 {
				right = api.TailMagic
			} else if at >= 24 {
				right = api.TailBody
			}
			for x := 1; x < 256; x++ {
				tail(t, fmt.Sprintf("P11.26: frame %d, byte %d turned by %d", i, at, x), turned(s, at, byte(x)), 0, right)
			}
		}
	}
	long := plain(rightFrames()[2])
	for at := 24; at < len(long); at += 4099 {
		tail(t, fmt.Sprint("P11.26: byte ", at), turned(long, at, 1<<(at%8)), 0, api.TailBody)
	}
}
