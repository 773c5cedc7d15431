package sched_test

import (
	"math"
	"math/rand"
	"slices"
	"strings"
	"testing"

	"strata/api"
	"strata/sched"
)

// Each byte as an entry of its own, as the last one and ahead of another.
func TestDecodeEveryByte(t *testing.T) {
	for b := range 256 {
		alone := sched.Decode(string([]byte{byte(b)}))
		behind := sched.Decode(string([]byte{byte(b), 0xa0}))
		var right api.Pick
		switch {
		case b <= 31:
			right = pick(1, b, 1)
		case b <= 63:
			want(t, "P3.1: the last byte", alone, []api.Pick{pick(0, 0, b)})
			want(t, "P3.1: a run", behind, []api.Pick{pick(2, b-32, 161)})
			continue
		case b <= 95:
			right = pick(3, b-64, 1)
		case b <= 127:
			right = pick(4, 0, b-95)
		case b <= 159:
			right = pick(5, b-128, 1)
		case b == 160:
			right = pick(6, 0, 0)
		default:
			right = pick(0, 0, b)
		}
		want(t, "P3.1: one byte", alone, []api.Pick{right})
		want(t, "P3.1: two bytes", behind, []api.Pick{right, pick(6, 0, 0)})
	}
	for n := range 256 {
		want(t, "P3.1: a run's second byte", sched.Decode("\x25"+string([]byte{byte(n)})), []api.Pick{pick(2, 5, n+1)})
	}
}

func TestDecodeExamples(t *testing.T) {
	want(t, "P3.1", len(sched.Decode("")), 0)
	want(t, "P3.1", sched.Decode("\x02\x21\x04\x83\xa0"), []api.Pick{pick(1, 2, 1), pick(2, 1, 5), pick(5, 3, 1), pick(6, 0, 0)})
	want(t, "P3.1", sched.Decode("\x40\x7f\xff\x25"), []api.Pick{pick(3, 0, 1), pick(4, 0, 32), pick(0, 0, 255), pick(0, 0, 37)})
	want(t, "P3.1: a run takes the byte behind it", sched.Decode("\x20\x20\x20"), []api.Pick{pick(2, 0, 33), pick(0, 0, 32)})
	want(t, "P3.1: a run of 256", sched.Decode("\x3f\xff\x00"), []api.Pick{pick(2, 31, 256), pick(1, 0, 1)})
	want(t, "P3.1: bytes, not letters", sched.Decode("é"), []api.Pick{pick(0, 0, 0xc3), pick(0, 0, 0xa9)})
}

// mayStand is P3.2's list of the picks that a schedule holds.
func mayStand(p api.Pick, last bool) bool {
	switch p.Kind {
	case api.PickStep, api.PickTick, api.PickFinish:
		return p.Who >= 0 && p.Who <= 31 && p.N == 1
	case api.PickRun:
		return p.Who >= 0 && p.Who <= 31 && p.N >= 1 && p.N <= 256
	case api.PickRound:
		return p.Who == 0 && p.N >= 1 && p.N <= 32
	case api.PickDrain:
		return p.Who == 0 && p.N == 0
	case api.PickNone:
		return p.Who == 0 && (p.N >= 161 && p.N <= 255 || last && p.N >= 32 && p.N <= 63)
	}
	return false
}

func wantEncoded(t *testing.T, picks ...api.Pick) {
	t.Helper()
	right := api.OK
	for i, p := range picks {
		if !mayStand(p, i == len(picks)-1) {
			right = api.ErrPick
		}
	}
	s, e := sched.Encode(picks...)
	if e != right || e != api.OK && s != "" {
		t.Errorf("P3.2: Encode(%v) = %q, %d, want the error %d", picks, s, e, right)
	}
	if e == api.OK && !slices.Equal(sched.Decode(s), picks) {
		t.Errorf("P3.2: Encode(%v) = %q, which holds %v", picks, s, sched.Decode(s))
	}
}

// Every kind with every number at and beyond a bound: alone, ahead of another pick, behind one.
func TestEncodeEveryPick(t *testing.T) {
	kinds := []int{math.MinInt, -256, -1, 0, 1, 2, 3, 4, 5, 6, 7, 8, 256, 257, math.MaxInt}
	for _, kind := range kinds {
		for _, who := range strange() {
			for _, n := range strange() {
				p := pick(kind, who, n)
				wantEncoded(t, p)
				wantEncoded(t, p, pick(api.PickStep, 0, 1))
				wantEncoded(t, pick(api.PickRun, 7, 33), p)
				wantEncoded(t, p, p)
			}
		}
	}
	for n := -300; n <= 600; n++ {
		for kind := range 7 {
			wantEncoded(t, pick(kind, 0, n))
			wantEncoded(t, pick(kind, n, 1))
			wantEncoded(t, pick(kind, 0, n), pick(api.PickTick, 3, 1))
		}
	}
}

func TestEncodeExamples(t *testing.T) {
	want(t, "P3.2: no picks", pair(sched.Encode()), pair("", api.OK))
	want(t, "P3.2: the last byte ahead of another", pair(sched.Encode(pick(0, 0, 37), pick(1, 0, 1))), pair("", api.ErrPick))
	want(t, "P3.2: twice the last byte", pair(sched.Encode(pick(0, 0, 37), pick(0, 0, 37))), pair("", api.ErrPick))
	want(t, "P3.2: the last byte", pair(sched.Encode(pick(1, 0, 1), pick(0, 0, 37))), pair("\x00\x25", api.OK))
	want(t, "P3.2: good ones ahead of a wrong one", pair(sched.Encode(pick(1, 0, 1), pick(5, 0, 2))), pair("", api.ErrPick))
	want(t, "P3.2: all kinds", pair(sched.Encode(pick(1, 2, 1), pick(2, 1, 5), pick(3, 4, 1), pick(4, 0, 32), pick(5, 3, 1), pick(6, 0, 0), pick(0, 0, 161))),
		pair("\x02\x21\x04\x44\x7f\x83\xa0\xa1", api.OK))
}

// Every string comes back: all of up to two bytes, and long ones.
func TestEveryStringComesBack(t *testing.T) {
	back := func(s string) {
		if got, e := sched.Encode(sched.Decode(s)...); got != s || e != api.OK {
			t.Errorf("P3.2: Encode(Decode(%q)) = %q, %d", s, got, e)
		}
	}
	for a := range 256 {
		back(string([]byte{byte(a)}))
		for b := range 256 {
			back(string([]byte{byte(a), byte(b)}))
		}
	}
	source := rand.New(rand.NewSource(1))
	for range 2000 {
		s := make([]byte, source.Intn(100))
		source.Read(s)
		back(string(s))
	}
	back(strings.Repeat("\x20", 100001))
}
