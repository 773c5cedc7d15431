package adya_test

import (
	"fmt"
	"math"
	"os"
	"runtime/debug"
	"slices"
	"strings"
	"testing"

	"strata/adya"
	"strata/api"
)

// The tests make many histories that live shortly: collecting them that often would take most of the time.
func TestMain(m *testing.M) {
	debug.SetGCPercent(800)
	os.Exit(m.Run())
}

const rc, si, rr, full = api.ReadCommitted, api.Snapshot, api.RepeatableRead, api.Serializable

// want holds what was answered against what should have been.
func want(t *testing.T, what string, got, right any) {
	t.Helper()
	if a, b := fmt.Sprintf("%+v", got), fmt.Sprintf("%+v", right); a != b {
		t.Errorf("%s: %.900s, want %.900s", what, a, b)
	}
}

// strange are numbers at and beyond all bounds.
func strange() []int {
	return []int{math.MinInt, math.MinInt32, -257, -2, -1, 0, 1, 2, 3, 4, 5, 6, 8, 9, 255, 256, 257, api.MaxPlace - 1, api.MaxPlace, api.MaxPlace + 1, 1<<31 - 1, 1 << 31, 1 << 32, 1<<32 + 1, 1 << 62, math.MaxInt - 1, math.MaxInt}
}

// strangeTimes likewise.
func strangeTimes() []uint64 {
	return []uint64{0, 1, 2, 5, api.MaxTime - 1, api.MaxTime, api.MaxTime + 1, 1 << 63, math.MaxUint64 - 1, math.MaxUint64}
}

// texts likewise.
var texts = []string{"", "\x00", "a", "a\x00", "b", "x", "y", "v", "\xff", "ä", strings.Repeat("k", 5000)}

func ver(key string, from, nth int) api.Ver { return api.Ver{Key: key, From: from, Nth: nth} }

// w writes a key; its value is the key's name.
func w(key string) api.HOp {
	return api.HOp{Kind: api.OWrite, Ver: api.Ver{Key: key}, Value: key}
}

// d deletes it.
func d(key string) api.HOp {
	return api.HOp{Kind: api.OWrite, Ver: api.Ver{Key: key}, Dead: true}
}

// r reads a version.
func r(key string, from, nth int) api.HOp {
	return api.HOp{Kind: api.ORead, Ver: ver(key, from, nth), Value: key}
}

// s looks a range through.
func s(low, high string, seen ...api.Ver) api.HOp {
	return api.HOp{Kind: api.OScan, Ver: api.Ver{Key: low}, Hi: high, Seen: seen}
}

// at lets a read or a scan look at a time.
func at(op api.HOp, time uint64) api.HOp {
	op.At = time + 1<<63 // txn takes the bit off
	return op
}

// txn gives a transaction that has committed as Snapshot; its reads and scans look at its begin, if at does not say otherwise.
func txn(begin, end uint64, ops ...api.HOp) api.HTxn {
	list := slices.Clone(ops)
	for i := range list {
		switch {
		case list[i].At >= 1<<63:
			list[i].At -= 1 << 63
		case list[i].Kind != api.OWrite:
			list[i].At = begin
		}
	}
	return api.HTxn{Iso: si, Fate: api.FCommitted, Begin: begin, End: end, BeginIn: int(2 * begin), BeginOut: int(2*begin + 1), EndIn: int(2 * end), EndOut: int(2*end + 1), Ops: list}
}

// as gives it another level.
func as(iso int, x api.HTxn) api.HTxn {
	x.Iso = iso
	return x
}

// fated gives it another fate.
func fated(f api.Fate, x api.HTxn) api.HTxn {
	x.Fate = f
	return x
}

// placed gives it other numbers of events.
func placed(x api.HTxn, beginIn, beginOut, endIn, endOut int) api.HTxn {
	x.BeginIn, x.BeginOut, x.EndIn, x.EndOut = beginIn, beginOut, endIn, endOut
	return x
}

func history(l ...api.HTxn) api.History { return api.History{Txns: l} }

// first is the transaction 0 of the chapter's examples.
func first() api.HTxn { return txn(0, 1, w("x"), w("y")) }

func edge(from, to int, kind api.EdgeKind, key string) api.Edge {
	return api.Edge{From: from, To: to, Kind: kind, Key: key}
}

func point(txn int, commit bool, at int) api.Point {
	return api.Point{Txn: txn, Commit: commit, At: at}
}

// checks holds Check's answer against the right one.
func checks(t *testing.T, what string, h api.History, code api.Errno, txn, op int) {
	t.Helper()
	e, x, o := adya.Check(h)
	want(t, "P14.1: "+what, []int{int(e), x, o}, []int{int(code), txn, op})
}

// edges holds them against the right ones, which come sorted.
func edges(t *testing.T, what string, h api.History, right ...api.Edge) {
	t.Helper()
	checks(t, what, h, api.OK, 0, 0)
	got, e := adya.Edges(h)
	want(t, "P14.3: "+what, []any{got, e}, []any{right, api.OK})
}

// shows holds a history's phenomena against the right ones, and all that hangs on them: the witnesses and the grades.
func shows(t *testing.T, what string, h api.History, right ...api.Phen) {
	t.Helper()
	checks(t, what, h, api.OK, 0, 0)
	got, e := adya.Phenomena(h)
	want(t, "P14.4: "+what, []any{got, e}, []any{right, api.OK})
	for p := api.G0; p <= api.G2; p++ {
		if !slices.Contains(right, p) {
			list, e := adya.Witness(h, p)
			want(t, fmt.Sprintf("P14.5: %s: %d", what, p), []any{list, e}, []any{[]api.Edge{}, api.ErrPhen})
		} else if fault := faultOfWitness(h, p); fault != "" {
			t.Errorf("P14.5: %s: %d: %s", what, p, fault)
		}
	}
	for g := api.PL1; g <= api.PL3; g++ {
		good, e := adya.Meets(h, g)
		want(t, fmt.Sprintf("P14.6: %s: %d", what, g), []any{good, e}, []any{plainMeets(right, g), api.OK})
	}
}

// embeds holds what Embed tells against the right points.
func embeds(t *testing.T, what string, h api.History, code api.Errno, right ...api.Point) {
	t.Helper()
	checks(t, what, h, api.OK, 0, 0)
	got, e := adya.Embed(h)
	want(t, "P14.9: "+what, []any{got, e}, []any{right, code})
}
