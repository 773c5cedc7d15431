package bits_test

import (
	"testing"

	"strata/api"
	"strata/bits"
)

func TestTimeWord(t *testing.T) {
	for _, v := range numbers() {
		want, code := v, api.OK
		if v > 1<<62-1 {
			want, code = 0, api.ErrRange
		}
		if w, e := bits.TimeWord(v); w != want || e != code {
			t.Errorf("P1.1: TimeWord(%d) = %d, %d, want %d, %d", v, w, e, want, code)
		}
	}
}

func TestTxnWord(t *testing.T) {
	for _, v := range numbers() {
		want, code := 1<<63+v, api.OK
		if v > 1<<62-1 {
			want, code = 0, api.ErrRange
		}
		if w, e := bits.TxnWord(v); w != want || e != code {
			t.Errorf("P1.2: TxnWord(%d) = %d, %d, want %d, %d", v, w, e, want, code)
		}
	}
}

func TestSplit(t *testing.T) {
	for _, c := range []struct {
		w    uint64
		kind api.WordKind
		n    uint64
	}{
		{0, api.WTime, 0}, {5, api.WTime, 5}, {1<<62 - 1, api.WTime, 1<<62 - 1},
		{1 << 62, api.WBad, 0}, {1<<62 + 1, api.WBad, 0}, {1<<63 - 2, api.WBad, 0}, {4611686018427387904, api.WBad, 0},
		{1<<63 - 1, api.WInf, 0}, {9223372036854775807, api.WInf, 0},
		{1 << 63, api.WTxn, 0}, {1<<63 + 1, api.WTxn, 1}, {9223372036854775808 + 7, api.WTxn, 7}, {1<<63 + 1<<62 - 1, api.WTxn, 1<<62 - 1},
		{1<<63 + 1<<62, api.WBad, 0}, {1<<63 + 1<<62 + 7, api.WBad, 0}, {1<<64 - 2, api.WBad, 0}, {1<<64 - 1, api.WBad, 0},
	} {
		if kind, n := bits.Split(c.w); kind != c.kind || n != c.n {
			t.Errorf("P1.3: Split(%d) = %d, %d, want %d, %d", c.w, kind, n, c.kind, c.n)
		}
	}
	for _, v := range numbers() {
		if w, e := bits.TimeWord(v); e == api.OK {
			if kind, n := bits.Split(w); kind != api.WTime || n != v {
				t.Errorf("P1.3: the time %d comes back as %d, %d", v, kind, n)
			}
		}
		if w, e := bits.TxnWord(v); e == api.OK {
			if kind, n := bits.Split(w); kind != api.WTxn || n != v {
				t.Errorf("P1.3: the transaction %d comes back as %d, %d", v, kind, n)
			}
		}
	}
}

func TestLink(t *testing.T) {
	for _, c := range []struct {
		slot   int
		marked bool
		w      uint64
		e      api.Errno
	}{
		{0, false, 0, api.OK}, {0, true, 1, api.OK}, {1, false, 2, api.OK}, {1, true, 3, api.OK}, {3, true, 7, api.OK},
		{1<<31 - 2, true, 1<<32 - 3, api.OK}, {1<<31 - 1, false, 1<<32 - 2, api.OK}, {1<<31 - 1, true, 1<<32 - 1, api.OK},
		{1 << 31, false, 0, api.ErrRange}, {1 << 31, true, 0, api.ErrRange}, {1<<63 - 1, true, 0, api.ErrRange},
		{-1, false, 0, api.ErrRange}, {-1, true, 0, api.ErrRange}, {-1 << 63, true, 0, api.ErrRange},
	} {
		if w, e := bits.Link(c.slot, c.marked); w != c.w || e != c.e {
			t.Errorf("P1.4: Link(%d, %v) = %d, %d, want %d, %d", c.slot, c.marked, w, e, c.w, c.e)
		}
	}
}

func TestOfLink(t *testing.T) {
	for _, c := range []struct {
		w      uint64
		slot   int
		marked bool
		e      api.Errno
	}{
		{0, 0, false, api.OK}, {1, 0, true, api.OK}, {2, 1, false, api.OK}, {3, 1, true, api.OK}, {7, 3, true, api.OK},
		{1<<32 - 2, 1<<31 - 1, false, api.OK}, {1<<32 - 1, 1<<31 - 1, true, api.OK},
		{1 << 32, 0, false, api.ErrRange}, {1<<32 + 1, 0, false, api.ErrRange}, {1 << 63, 0, false, api.ErrRange}, {1<<64 - 1, 0, false, api.ErrRange},
	} {
		if slot, marked, e := bits.OfLink(c.w); slot != c.slot || marked != c.marked || e != c.e {
			t.Errorf("P1.5: OfLink(%d) = %d, %v, %d, want %d, %v, %d", c.w, slot, marked, e, c.slot, c.marked, c.e)
		}
	}
}
