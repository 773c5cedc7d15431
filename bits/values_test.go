package bits_test

import (
	"slices"
	"testing"

	"strata/api"
	"strata/bits"
)

func sign(n int) int { return min(1, max(-1, n)) }

func TestCompareValues(t *testing.T) {
	vs := rising()
	for i, a := range vs {
		for j, b := range vs {
			if c := bits.CompareValues(a, b); c != sign(i-j) {
				t.Errorf("P1.14: CompareValues(%v, %v) = %d", a, b, c)
			}
		}
	}
	// Not valid, but in order: the Kind ahead of the Int, the Int ahead of the Text.
	ranked := list(
		api.Value{Kind: -1 << 63, Int: 9, Text: "z"}, api.Value{Kind: -1, Int: 9, Text: "z"},
		api.Value{Int: -5, Text: "z"}, api.Value{Text: ""}, api.Value{Text: "\x00"}, api.Value{Text: "b"}, api.Value{Int: 1},
		api.Value{Kind: api.KBool, Int: -7, Text: "q"}, api.Value{Kind: api.KBool, Int: 2},
		api.Value{Kind: api.KInt, Int: 3}, api.Value{Kind: api.KInt, Int: 3, Text: "a"},
		api.Value{Kind: api.KText, Int: -1 << 63, Text: "z"}, api.Value{Kind: api.KText, Int: -1, Text: "z"}, api.Value{Kind: api.KText, Int: 1<<63 - 1, Text: "a"},
		api.Value{Kind: 4}, api.Value{Kind: 1<<63 - 1, Int: -1},
	)
	for i, a := range ranked {
		for j, b := range ranked {
			if c := bits.CompareValues(a, b); c != sign(i-j) {
				t.Errorf("P1.14: CompareValues(%v, %v) = %d", a, b, c)
			}
		}
	}
}

func TestCompare(t *testing.T) {
	ranked := [][]api.Value{
		nil, list(null), list(null, null), list(null, integer(1)), list(null, integer(1), truth(0)), list(null, integer(2)), list(null, text("")),
		list(truth(0)), list(truth(1), text("z")), list(integer(-2), text("z")), list(integer(1)), list(integer(1), null), list(text("a")), list(text("a"), null), list(text("a\x00")), list(api.Value{Kind: 9}),
	}
	for i, a := range ranked {
		for j, b := range ranked {
			if c := bits.Compare(a, b); c != sign(i-j) {
				t.Errorf("P1.15: Compare(%v, %v) = %d", a, b, c)
			}
		}
		if c := bits.Compare(a, slices.Clone(a)); c != 0 {
			t.Errorf("P1.15: %v differs from its copy: %d", a, c)
		}
	}
	if bits.Compare(nil, []api.Value{}) != 0 || bits.Compare([]api.Value{}, nil) != 0 {
		t.Error("P1.15: nil and an empty list are not the same")
	}
	long := make([]api.Value, 40)
	if bits.Compare(long, long[:39]) != 1 || bits.Compare(long[:39], long) != -1 {
		t.Error("P1.15: of long lists the shorter is not less")
	}
}
