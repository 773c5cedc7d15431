package redo_test

import (
	"fmt"
	"math"
	"testing"

	"strata/api"
	"strata/redo"
)

// trimmable is a log whose segments 1 to 4 were left by Open, and 5 and 6 are its own. Their first numbers are 1, 3, 3, 4, 7, 8; the commit 9 is in the buffer.
func trimmable(t *testing.T) (*redo.Device, *redo.Log) {
	t.Helper()
	d := log(t, headOf(1, 1)+data(1, c1(), c2()), headOf(2, 3)+mark(3, 9), headOf(3, 3)+data(3, c3()), headOf(4, 4)+data(4, c1(), c2(), c3()))
	l := open(t, d, options(0))
	append1(t, l, sized(7, 200))
	ok(t, "Flush", l.Flush())
	append1(t, l, sized(8, 100))
	ok(t, "Flush", l.Flush())
	append1(t, l, c1())
	want(t, "the scene", []any{names(d), read(t, d, nameOf(6))[:24]}, []any{"1 2 3 4 5 6", headOf(6, 8)})
	return d, l
}

// P11.24
func TestTrim(t *testing.T) {
	all := []int{0, 0, 2, 3, 3, 3, 4, 5, 5, 5}
	for lsn, right := range all {
		d, l := trimmable(t)
		last := read(t, d, nameOf(6))
		n, e := l.Trim(uint64(lsn))
		want(t, fmt.Sprintf("P11.24: Trim(%d)", lsn), []any{n, e, names(d), d.Changes()}, []any{right, api.OK, "1 2 3 4 5 6"[2*right:], 0})
		want(t, "P11.24: nothing is flushed", read(t, d, nameOf(6)), last)
		commits, _, tail := redo.Replay(d)
		want(t, "P11.24: the log behind it", []any{commits[len(commits)-1].Lsn, tail.Kind, tail.Next}, []any{8, api.TailClean, 9})
		want(t, "P11.24: all above lsn are there", commits[0].Lsn <= uint64(lsn)+1 || lsn >= 8, true)
		n, e = l.Trim(uint64(lsn))
		want(t, "P11.24: once more", []any{n, e}, []any{0, api.OK})
		for then := lsn; then < len(all); then++ {
			n, e = l.Trim(uint64(then))
			want(t, fmt.Sprintf("P11.24: Trim(%d), later Trim(%d)", lsn, then), []any{n, e}, []any{all[then] - right, api.OK})
			right = all[then]
		}
		list, e := l.Sync()
		want(t, "P11.24: the log goes on", []any{list, e, names(d)}, []any{[]uint64{7, 8, 9}, api.OK, "6"})
	}
	for _, lsn := range []uint64{100, api.MaxTime - 1, api.MaxTime, api.MaxTime + 1, 1 << 63, math.MaxUint64 - 1, math.MaxUint64} {
		d, l := trimmable(t)
		n, e := l.Trim(lsn)
		want(t, fmt.Sprintf("P11.24: Trim(%d): the present segment stays", lsn), []any{n, e, names(d)}, []any{5, api.OK, "6"})
	}
}

func TestTrimAtMaxTime(t *testing.T) {
	for lsn, right := range map[uint64]int{0: 0, api.MaxTime - 2: 0, api.MaxTime - 1: 1, api.MaxTime: 1, api.MaxTime + 1: 1, math.MaxUint64: 1} {
		d := log(t, headOf(1, api.MaxTime-1)+data(api.MaxTime-1, c1()))
		l := open(t, d, options(0))
		n, e := l.Trim(lsn)
		want(t, fmt.Sprintf("P11.24: Trim(%d) at MaxTime", lsn), []any{n, e, len(d.List())}, []any{right, api.OK, 2 - right})
	}
}

// Trim is of the log's segments alone.
func TestTrimByHand(t *testing.T) {
	d, l := trimmable(t)
	lay(t, d, "log-000009", headOf(9, 1), 5)
	lay(t, d, "log-000000", headOf(9, 1), 5)
	n, e := l.Trim(api.MaxTime)
	want(t, "P11.24: others stay", []any{n, e, names(d)}, []any{5, api.OK, "0 6 9"})
	for gone := 1; gone <= 5; gone++ {
		d, l := trimmable(t)
		ok(t, "Remove", d.Remove(nameOf(gone)))
		n, e := l.Trim(api.MaxTime)
		want(t, "P11.24: one that is not there is refused", []any{n, e, len(d.List())}, []any{0, api.ErrHalt, 6 - gone})
		stopped(t, "a Trim that was refused", d, l)
	}
	d, l = trimmable(t)
	ok(t, "Remove", d.Remove(nameOf(6)))
	n, e = l.Trim(api.MaxTime)
	want(t, "P11.24: the present one is not asked for", []any{n, e, names(d)}, []any{5, api.OK, ""})
	// where Open left none
	d = log(t, headOf(1, 1)+data(1, c1()))
	l = open(t, d, options(9))
	n, e = l.Trim(api.MaxTime)
	want(t, "P11.24: none", []any{n, e, names(d)}, []any{0, api.OK, "2"})
}
