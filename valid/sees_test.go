package valid_test

import (
	"fmt"
	"math/rand"
	"slices"
	"strings"
	"testing"

	"strata/api"
	"strata/valid"
)

// upTo are the numbers from one to another.
func upTo(from, to int) []int {
	var all []int
	for n := from; n <= to; n++ {
		all = append(all, n)
	}
	return all
}

// holds looks at all that a set tells.
func holds(t *testing.T, what string, s *valid.Sees, slots []int, ranges ...valid.Range) {
	t.Helper()
	want(t, what+": P9.2: Slots, Ranges", []any{s.Slots(), fmt.Sprintf("%q", s.Ranges())}, []any{slots, fmt.Sprintf("%q", ranges)})
	for _, slot := range append(strange(), slots...) {
		want(t, fmt.Sprintf("%s: P9.2: Has(%d)", what, slot), s.Has(slot), slices.Contains(slots, slot))
	}
}

func TestAnEmptySet(t *testing.T) {
	s := valid.NewSees()
	if s == nil {
		t.Fatal("P9.1: no set")
	}
	holds(t, "a new one", s, nil)
	want(t, "P9.1: no slots", s.Read(), api.OK)
	want(t, "P9.1: no slots", s.Read([]int{}...), api.OK)
	holds(t, "behind reads of nothing", s, nil)
}

func TestRead(t *testing.T) {
	s := valid.NewSees()
	want(t, "P9.1: twice in one call", s.Read(3, 1, 3, 2, 3, 1), api.OK)
	holds(t, "twice in one call", s, []int{3, 1, 2})
	want(t, "P9.1: in two calls", s.Read(2, 7, 3, 7, 5), api.OK)
	holds(t, "in two calls", s, []int{3, 1, 2, 7, 5})
	want(t, "P9.1: nothing new", s.Read(5, 5, 1), api.OK)
	want(t, "P9.1: none", s.Read(), api.OK)
	holds(t, "nothing new", s, []int{3, 1, 2, 7, 5})
}

// Any numbers may be noted, 0 and those below it too.
func TestReadOfAnyNumbers(t *testing.T) {
	s := valid.NewSees()
	want(t, "P9.1: any numbers", s.Read(strange()...), api.OK)
	holds(t, "any numbers", s, strange())
	for _, n := range strange() {
		one := valid.NewSees()
		want(t, fmt.Sprint("P9.1: Read of ", n), []any{one.Has(n), one.Read(n), one.Has(n), one.Slots()}, []any{false, api.OK, true, []int{n}})
	}
}

func TestReadOfMany(t *testing.T) {
	const most = api.MaxIntents
	for noted := range most + 1 {
		s := valid.NewSees()
		want(t, "P9.1: up to the bound", s.Read(upTo(1, noted)...), api.OK)
		room := most - noted
		fresh := upTo(101, 100+room+1)
		want(t, fmt.Sprintf("P9.1: %d noted, %d new", noted, room+1), s.Read(fresh...), api.ErrLong)
		holds(t, "P9.1: nothing is noted", s, upTo(1, noted))
		mixed := append(append(upTo(1, noted), fresh...), upTo(1, noted)...)
		want(t, fmt.Sprintf("P9.1: %d noted again, %d new", noted, room+1), s.Read(mixed...), api.ErrLong)
		holds(t, "P9.1: nothing is noted", s, upTo(1, noted))
		known := append(append(upTo(1, noted), fresh[:room]...), append(fresh[:room:room], upTo(1, noted)...)...)
		want(t, fmt.Sprintf("P9.1: %d noted again, %d new, each twice", noted, room), s.Read(known...), api.OK)
		all := append(upTo(1, noted), fresh[:room]...)
		holds(t, "P9.1: as many as may be", s, all)
		want(t, "P9.1: one more", s.Read(0), api.ErrLong)
		want(t, "P9.1: one more, among known ones", s.Read(append(slices.Clone(all), -1)...), api.ErrLong)
		want(t, "P9.1: known ones", s.Read(all...), api.OK)
		want(t, "P9.1: none", s.Read(), api.OK)
		holds(t, "P9.1: as many as may be", s, all)
		want(t, "P9.1: ranges have a bound of their own", s.Look("a", ""), api.OK)
	}
	s := valid.NewSees()
	want(t, "P9.1: very many", s.Read(make([]int, 1<<20)...), api.OK)
	holds(t, "P9.1: one number very often", s, []int{0})
	want(t, "P9.1: very many", s.Read(upTo(1, 1<<20)...), api.ErrLong)
	holds(t, "P9.1: very many", s, []int{0})
}

func TestLook(t *testing.T) {
	s := valid.NewSees()
	r := func(low, high string) valid.Range { return valid.Range{Low: low, High: high} }
	for _, x := range []valid.Range{r("b", ""), r("a", "c"), r("b", ""), r("c", "a"), r("", ""), r("a", "c"), r("b", "b"), r("", "b"), r("", "")} {
		want(t, fmt.Sprintf("P9.1: Look(%q, %q)", x.Low, x.High), s.Look(x.Low, x.High), api.OK)
	}
	holds(t, "ranges", s, nil, r("b", ""), r("a", "c"), r("c", "a"), r("", ""), r("b", "b"), r("", "b"))
}

// Any two texts are the bounds of a range; two ranges are one if both of their bounds are.
func TestLookOfAnyBounds(t *testing.T) {
	s := valid.NewSees()
	var all []valid.Range
	for i, low := range texts() {
		for _, high := range texts()[max(0, i-2):min(len(texts()), i+3)] {
			want(t, "P9.1: any bounds", []any{s.Look(low, high), s.Look(low, high)}, []any{api.OK, api.OK})
			all = append(all, valid.Range{Low: low, High: high})
		}
	}
	want(t, "P9.2: any bounds", slices.Equal(s.Ranges(), all), true)
}

func TestLookOfMany(t *testing.T) {
	s := valid.NewSees()
	var all []valid.Range
	for i := range api.MaxIntents {
		low, high := fmt.Sprint("low", i/2), fmt.Sprint("high", i%2)
		want(t, fmt.Sprint("P9.1: range ", i), s.Look(low, high), api.OK)
		all = append(all, valid.Range{Low: low, High: high})
	}
	for _, more := range []valid.Range{{}, {Low: "low0"}, {High: "high0"}, {Low: "high0", High: "low0"}, {Low: "low0", High: "high2"}} {
		want(t, "P9.1: one more", s.Look(more.Low, more.High), api.ErrLong)
	}
	for _, known := range all {
		want(t, "P9.1: one that is noted", s.Look(known.Low, known.High), api.OK)
	}
	want(t, "P9.1: versions have a bound of their own", s.Read(upTo(1, api.MaxIntents)...), api.OK)
	holds(t, "P9.1: as many as may be", s, upTo(1, api.MaxIntents), all...)
}

// book is a set as the chapter has it, without a map.
type book struct {
	slots  []int
	ranges []valid.Range
}

func (b *book) read(slots []int) api.Errno {
	next := slices.Clone(b.slots)
	for _, n := range slots {
		if !slices.Contains(next, n) {
			next = append(next, n)
		}
	}
	if len(next) > 64 {
		return api.ErrLong
	}
	b.slots = next
	return api.OK
}

func (b *book) look(r valid.Range) api.Errno {
	switch {
	case slices.Contains(b.ranges, r):
	case len(b.ranges) == 64:
		return api.ErrLong
	default:
		b.ranges = append(b.ranges, r)
	}
	return api.OK
}

// Two sets beside each other, in the hands of chance.
func TestSetsAreAsWritten(t *testing.T) {
	long := 0
	for seed := range int64(300) {
		source := rand.New(rand.NewSource(seed))
		real, right := [2]*valid.Sees{valid.NewSees(), valid.NewSees()}, [2]book{}
		for range 60 {
			i := source.Intn(2)
			got, ought := api.OK, api.OK
			if source.Intn(2) == 0 {
				slots := make([]int, source.Intn(12))
				for k := range slots {
					slots[k] = source.Intn(100) - 5
				}
				got, ought = real[i].Read(slots...), right[i].read(slots)
			} else {
				low, high := strings.Repeat("a", source.Intn(12)), strings.Repeat("b", source.Intn(12))
				got, ought = real[i].Look(low, high), right[i].look(valid.Range{Low: low, High: high})
			}
			if ought == api.ErrLong {
				long++
			}
			if got != ought {
				t.Fatalf("P9.1: seed %d: %d, want %d", seed, got, ought)
			}
			for k, s := range real {
				if !slices.Equal(s.Slots(), right[k].slots) || !slices.Equal(s.Ranges(), right[k].ranges) {
					t.Fatalf("P9.2: seed %d: %v, %q, want %v, %q", seed, s.Slots(), s.Ranges(), right[k].slots, right[k].ranges)
				}
				n := source.Intn(110) - 8
				if s.Has(n) != slices.Contains(right[k].slots, n) {
					t.Fatalf("P9.2: seed %d: Has(%d)", seed, n)
				}
			}
		}
	}
	if long < 100 {
		t.Errorf("the bounds were hardly met: %d times", long)
	}
}

// What is told is new memory, and what is handed in is not kept.
func TestListsOfASet(t *testing.T) {
	s := valid.NewSees()
	slots := []int{4, 5, 6}
	s.Read(slots...)
	s.Look("a", "b")
	want(t, "P0.1: what is handed in is not changed", slots, []int{4, 5, 6})
	slots[0] = 9
	one, two := s.Slots(), s.Ranges()
	one[0], two[0].Low = 9, "x"
	_, _ = append(one, 8), append(two, valid.Range{Low: "y"})
	_ = append(one[:1], 7, 7, 7, 7)
	holds(t, "P0.1: lists that were told", s, []int{4, 5, 6}, valid.Range{Low: "a", High: "b"})
	other, again := s.Slots(), s.Slots()
	other = append(other, 1)
	again = append(again, 2)
	want(t, "P0.1: two lists share no room", []any{other, again}, []any{[]int{4, 5, 6, 1}, []int{4, 5, 6, 2}})
	s.Read(1, 2, 3)
	want(t, "P0.1: lists that were told stay", []any{one, other}, []any{[]int{9, 5, 6}, []int{4, 5, 6, 1}})
	wide := make([]int, 2, 8)
	wide[0], wide[1] = 20, 21
	s.Read(wide...)
	s.Read(22)
	want(t, "P0.1: the room behind what is handed in", wide[:3], []int{20, 21, 0})
}
