package bits_test

import (
	"math/rand"
	"strings"
	"testing"

	"strata/api"
	"strata/bits"
)

var null api.Value

func truth(v int64) api.Value         { return api.Value{Kind: api.KBool, Int: v} }
func integer(v int64) api.Value       { return api.Value{Kind: api.KInt, Int: v} }
func text(s string) api.Value         { return api.Value{Kind: api.KText, Text: s} }
func list(v ...api.Value) []api.Value { return v }

// numbers are those at which the bytes of a number grow, and their neighbours.
func numbers() []uint64 {
	ns := []uint64{0, 1, 300}
	for n := range 64 {
		ns = append(ns, 1<<n-1, 1<<n, 1<<n+1)
	}
	return append(ns, 1<<64-2, 1<<64-1)
}

// rising are valid values, each less than the next.
func rising() []api.Value {
	vs := list(null, truth(0), truth(1), integer(-1<<63), integer(-1<<63+1))
	for n := 62; n > 0; n-- {
		vs = append(vs, integer(-1<<n-1), integer(-1<<n))
		if n > 2 {
			vs = append(vs, integer(-1<<n+1))
		}
	}
	vs = append(vs, integer(-1), integer(0), integer(1))
	for n := 1; n < 63; n++ {
		if n > 1 {
			vs = append(vs, integer(1<<n-1))
		}
		vs = append(vs, integer(1<<n))
		if n > 1 {
			vs = append(vs, integer(1<<n+1))
		}
	}
	vs = append(vs, integer(1<<63-1))
	for _, s := range []string{"", "\x00", "\x00\x00", "\x00\x00\x01", "\x00\x01", "\x00\xfe", "\x00\xff", "\x01", "\x01\x00", "P", "a", "a\x00", "a\x00\xff", "a\x01", "aa", "ab", "b", "\xfe\xff", "\xff", "\xff\x00", "\xff\xff"} {
		vs = append(vs, text(s))
	}
	return vs
}

// wrongValues are not valid, none by its text's length alone.
func wrongValues() []api.Value {
	long := strings.Repeat("x", api.MaxText+1)
	return list(
		api.Value{Kind: -1}, api.Value{Kind: 4}, api.Value{Kind: -1 << 63}, api.Value{Kind: 1<<63 - 1}, api.Value{Kind: 4, Text: long},
		api.Value{Int: 1}, api.Value{Int: -1}, api.Value{Text: "x"}, api.Value{Text: long},
		api.Value{Kind: api.KBool, Int: 2}, api.Value{Kind: api.KBool, Int: -1}, api.Value{Kind: api.KBool, Int: 1 << 32}, api.Value{Kind: api.KBool, Text: "x"}, api.Value{Kind: api.KBool, Text: long},
		api.Value{Kind: api.KInt, Text: "x"}, api.Value{Kind: api.KInt, Int: 5, Text: long},
		api.Value{Kind: api.KText, Int: 1}, api.Value{Kind: api.KText, Int: -1, Text: "x"}, api.Value{Kind: api.KText, Int: 1, Text: long},
	)
}

// anyTexts are texts of all kinds, the same at every run: some at random, some out of bytes that mean something to keys, rows and numbers.
func anyTexts(count int) []string {
	source := rand.New(rand.NewSource(1))
	telling := "\x00\x01\x02\x03\x04\x05\x10\x11\x20\x21\x22\x2f\x30\x35\x36\x37\x38\x39\x3a\x40\x41\x50\x7f\x80\x81\xfe\xff"
	ss := make([]string, count)
	for i := range ss {
		b := make([]byte, source.Intn(24))
		for j := range b {
			b[j] = byte(source.Intn(256))
			if i%4 > 0 {
				b[j] = telling[source.Intn(len(telling))]
			}
		}
		ss[i] = string(b)
	}
	return ss
}

// anyValues are valid lists, the same at every run.
func anyValues(count int) [][]api.Value {
	source := rand.New(rand.NewSource(2))
	vs := rising()
	ls := make([][]api.Value, count)
	for i := range ls {
		for range source.Intn(api.MaxVals + 1) {
			ls[i] = append(ls[i], vs[source.Intn(len(vs))])
		}
	}
	return ls
}

func same(a, b []api.Value) bool {
	if len(a) != len(b) {
		return false
	}
	for i := range a {
		if a[i] != b[i] {
			return false
		}
	}
	return true
}

// key tells the bytes of a list that has them.
func key(t *testing.T, l []api.Value) string {
	t.Helper()
	s, e := bits.Key(l...)
	if e != api.OK {
		t.Fatalf("P1.16: Key(%v) answers the error %d", l, e)
	}
	return s
}
