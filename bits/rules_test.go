package bits_test

import (
	"slices"
	"strings"
	"testing"

	"strata/api"
	"strata/bits"
)

// callAll makes every call of the package, with what it is given in all places where it fits.
func callAll(s string, at int, vals []api.Value) {
	u := uint64(at)
	bits.TimeWord(u)
	bits.TxnWord(u)
	bits.Split(u)
	bits.Link(at, len(s)%2 == 0)
	bits.OfLink(u)
	bits.Uvarint(u)
	bits.Svarint(int64(at))
	bits.Fixed32(uint32(at))
	bits.Fixed64(u)
	bits.Blob(s)
	bits.ReadUvarint(s, at)
	bits.ReadSvarint(s, at)
	bits.ReadFixed32(s, at)
	bits.ReadFixed64(s, at)
	bits.ReadBlob(s, at)
	bits.Checksum(s, "", s)
	bits.Extend(uint32(at), s)
	bits.Combine(uint32(at), uint32(at>>32), at)
	for i := range min(len(vals), 3) {
		bits.CompareValues(vals[i], vals[len(vals)-1])
	}
	bits.Compare(vals, nil)
	bits.Compare(vals, vals)
	bits.Key(vals...)
	bits.ReadKey(s)
	bits.After(s)
	bits.Row(vals...)
	bits.ReadRow(s)
	bits.Hash(s)
	bits.Height(s, at)
}

func TestNoCallPanics(t *testing.T) {
	places := []int{-1 << 63, -1, 0, 1, 2, 3, 23, 24, 1 << 20, 1<<20 + 1, 1<<31 - 1, 1 << 31, 1<<62 - 1, 1 << 62, 1<<63 - 1}
	lists := append(anyValues(20), nil, []api.Value{}, make([]api.Value, 17), make([]api.Value, 1000), wrongValues())
	for i, s := range append(anyTexts(20000), strings.Repeat("\xff", 1<<20+1), strings.Repeat("\x00", 1<<20+1)) {
		callAll(s, places[i%len(places)], lists[i%len(lists)])
	}
	for _, at := range places {
		for _, l := range lists {
			callAll("", at, l)
			callAll("\x02\x0b\x80\x01\x01a", at, l)
		}
	}
	callAll("", 0, nil)
	bits.Checksum()
	bits.Key()
	bits.Row()
}

// What is handed in keeps its elements, and the room behind them.
func TestListsAreNotChanged(t *testing.T) {
	for _, given := range append(anyValues(200), wrongValues(), list(integer(3), null, integer(-3), text("b"), text("a"))) {
		given = append(given, integer(77))
		before := slices.Clone(given)
		l := given[:len(given)-1]
		bits.Key(l...)
		bits.Row(l...)
		bits.Compare(l, given)
		bits.Compare(given, l)
		if !same(given, before) {
			t.Fatalf("P0.1: a list was changed: %v, was %v", given, before)
		}
	}
	parts := []string{"a", strings.Repeat("b", 5000), "c"}
	before := slices.Clone(parts)
	bits.Checksum(parts[:2]...)
	if !slices.Equal(parts, before) {
		t.Error("P0.1: Checksum changed its parts")
	}
}

// Nothing that is written into an answer, or behind it, is seen in another one.
func TestAnswersAreNewMemory(t *testing.T) {
	want := list(integer(1), text("ab"), truth(1))
	k := key(t, want)
	r, _ := bits.Row(want...)
	for name, read := range map[string]func() ([]api.Value, api.Errno){
		"P1.17: ReadKey": func() ([]api.Value, api.Errno) { return bits.ReadKey(k) },
		"P1.20: ReadRow": func() ([]api.Value, api.Errno) { return bits.ReadRow(r) },
	} {
		first, _ := read()
		second, _ := read()
		for i := range first {
			first[i] = integer(99)
		}
		spare := first[:cap(first)]
		for i := range spare {
			spare[i] = integer(98)
		}
		third, _ := read()
		second = append(second, null)
		if !same(second, append(slices.Clone(want), null)) || !same(third, want) {
			t.Errorf("%s: answers share memory: %v, %v", name, second, third)
		}
		if e, _ := read(); !same(e, want) {
			t.Errorf("%s: a later answer is %v", name, e)
		}
	}
}

// An answer hangs on the arguments alone: the same call, made again behind others, answers the same.
func TestNothingIsKept(t *testing.T) {
	long := mixed(3000)
	sum := bits.Checksum(long)
	k := key(t, list(text("a"), integer(-5)))
	callAll(long, 1<<63-1, wrongValues())
	callAll("", -1, nil)
	if bits.Checksum(long) != sum || key(t, list(text("a"), integer(-5))) != k {
		t.Error("P0.1: an answer hangs on earlier calls")
	}
}
