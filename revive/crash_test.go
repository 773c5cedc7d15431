package revive_test

import (
	"fmt"
	"math/rand"
	"testing"

	"strata/api"
	"strata/redo"
	"strata/revive"
)

// voyage is one log on a device without files, that is only appended to, flushed and synced, up to where the power ends.
type voyage struct {
	d     *redo.Device
	cs    []api.Commit // that were taken
	acked uint64
}

// sail makes a voyage: the power ends behind so many calls of the device (below 0: never).
func sail(t *testing.T, seed int64, power int, o api.LogOptions) *voyage {
	r := rand.New(rand.NewSource(seed))
	v := &voyage{d: device(t)}
	ok(t, "Cut", v.d.Cut(power))
	l, _, e := redo.Open(v.d, o)
	for e == api.OK && len(v.cs) < 14 {
		c := someCommit(r, 3, 9)
		if _, e = l.Append(c); e == api.OK {
			v.cs = append(v.cs, c)
		}
		if r.Intn(4) == 0 && e == api.OK {
			e = l.Flush()
		}
		if r.Intn(3) == 0 && e == api.OK {
			var list []uint64
			if list, e = l.Sync(); len(list) > 0 {
				v.acked = list[len(list)-1]
			}
		}
	}
	return v
}

// between holds what comes back of a voyage against P13.4, and tells how many commits are left.
func (v *voyage) between(t *testing.T, what string, d *redo.Device, workers int) int {
	t.Helper()
	s, e := revive.Recover(d, workers)
	n := int(s.Next) - 1
	if e != api.OK || n < int(v.acked) || n > len(v.cs) {
		t.Fatalf("P13.4: %s: %d, %d commits, %d are acknowledged of %d", what, e, n, v.acked, len(v.cs))
	}
	if got, right := fmt.Sprint(s.Rows), fmt.Sprint(plainPlay(nil, v.cs[:n])); got != right {
		t.Fatalf("P13.4: %s: behind %d commits: %s, want %s", what, n, got, right)
	}
	want(t, "P13.4: "+what, []any{s.Upto, s.Played}, []any{0, n})
	return n
}

// calls tells how many changing calls of the device a voyage makes.
func calls(t *testing.T, seed int64, o api.LogOptions) int {
	for n := 0; ; n++ {
		v := sail(t, seed, n, o)
		if left, _ := powerOf(v.d); left > 0 {
			return n - left
		}
	}
}

// P13.4: a crash behind each call of the device, with every number of the directory's changes and of bytes kept.
func TestCrashAtEachCall(t *testing.T) {
	for i, o := range []api.LogOptions{{Segment: 256, Batch: 1}, {Segment: 256, Batch: 2, First: 1}, {Segment: 300, Batch: 5}, {Segment: api.MaxSegment, Batch: 64, First: 1}} {
		seed := int64(i + 1)
		total := calls(t, seed, o)
		met := map[int]int{} // by how many commits are left
		lost, torn := 0, 0
		for power := range total + 1 {
			v := sail(t, seed, power, o)
			most := 0
			for _, f := range v.d.List() {
				most = max(most, f.Size-f.Synced)
			}
			for dir := range v.d.Changes() + 1 {
				for bytes := range most + 1 {
					c := v.d.Copy()
					keep := all()
					for i := range keep {
						keep[i] = bytes
					}
					ok(t, "Crash", c.Crash(dir, keep...))
					n := v.between(t, fmt.Sprintf("options %+v, cut behind %d, %d changes, %d bytes", o, power, dir, bytes), c, 1+(power+dir+bytes)%16)
					met[n]++
					if n < len(v.cs) {
						lost++
					}
					if _, _, tail := redo.Replay(c); tail.Kind == api.TailTorn {
						torn++
					}
				}
			}
		}
		if len(met) < 4 || lost == 0 || torn == 0 {
			t.Errorf("options %+v: %d calls, met %v, lost %d, torn %d", o, total, met, lost, torn)
		}
	}
}

// P13.4 at random: other numbers of bytes of each file, other logs, no cut too.
func TestCrashAtRandom(t *testing.T) {
	left := map[bool]int{}
	for seed := int64(1); seed <= 3000; seed++ {
		r := rand.New(rand.NewSource(-seed))
		o := api.LogOptions{Segment: 256 + r.Intn(100), Batch: 1 + r.Intn(5), First: uint64(r.Intn(2))}
		v := sail(t, seed, r.Intn(60)-3, o)
		keep := make([]int, 20)
		for i := range keep {
			keep[i] = r.Intn(80) - 5
		}
		ok(t, "Crash", v.d.Crash(r.Intn(v.d.Changes()+3)-1, keep...))
		n := v.between(t, fmt.Sprint("seed ", seed), v.d, 1+r.Intn(16))
		left[n > int(v.acked)]++
		// what a crash has left stays so, crash by crash
		ok(t, "Crash", v.d.Crash(0))
		want(t, "P13.4: a second crash", v.between(t, "a second crash", v.d, 3), n)
	}
	if left[true] < 100 || left[false] < 100 {
		t.Errorf("more than was acknowledged is left, or no more: %v", left)
	}
}
