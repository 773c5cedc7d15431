package revive_test

import (
	"fmt"
	"math/rand"
	"testing"

	"strata/api"
	"strata/redo"
	"strata/revive"
)

// follower is a standby, what it should be, and how often it catches up.
type follower struct {
	*revive.Standby
	plain plainStandby
	pace  int
}

// tries has the follower catch up with a device, and holds it against the plain one.
func (f *follower) tries(t *testing.T, what string, d *redo.Device) api.Errno {
	t.Helper()
	n, e := f.Catch(d)
	k, right := f.plain.catch(d)
	want(t, "P13.8: "+what, []any{n, e}, []any{k, right})
	want(t, "P13.9: "+what, shown(f.Standby), f.plain.shown())
	return e
}

func followers(paces ...int) []*follower {
	var list []*follower
	for _, pace := range paces {
		list = append(list, &follower{Standby: revive.NewStandby(), pace: pace})
	}
	return list
}

// P13.10: however the catching up is cut, a standby has the rows that Recover tells of the whole log, and the greatest stamp as its clock.
func TestFollowersOfALog(t *testing.T) {
	trimmed := 0
	for seed := int64(1); seed <= 400; seed++ {
		r := rand.New(rand.NewSource(seed))
		d, whole := device(t), device(t) // one is trimmed, the other is not
		o := api.LogOptions{Segment: 256 + r.Intn(300), Batch: 1 + r.Intn(4)}
		l, _, e := redo.Open(d, o)
		m, _, e2 := redo.Open(whole, o)
		ok(t, "Open", e, e2)
		list := followers(1, 2, 5, 1+r.Intn(20))
		late := followers(1)[0]
		clock := uint64(0)
		for range 5 + r.Intn(40) {
			c := someCommit(r, 5, 12)
			clock = max(clock, c.Stamp)
			_, e := l.Append(c)
			_, e2 := m.Append(c)
			ok(t, "Append", e, e2, l.Flush(), m.Flush())
			for _, f := range list {
				if r.Intn(f.pace) == 0 {
					f.tries(t, fmt.Sprint("seed ", seed), d)
				}
			}
			switch r.Intn(12) {
			case 0:
				ok(t, "Mark", l.Mark(uint64(1+r.Intn(20))))
			case 1:
				l, _, e = redo.Open(d, o)
				ok(t, "Open", e)
			case 2:
				for _, f := range list {
					ok(t, "P13.8", f.tries(t, fmt.Sprint("seed ", seed), d))
				}
				n, e := l.Trim(l.Next() - 1)
				ok(t, "Trim", e)
				trimmed += n
			}
		}
		s, e := revive.Recover(whole, 1+r.Intn(16))
		ok(t, "P13.1", e)
		for _, f := range list {
			ok(t, "P13.8", f.tries(t, fmt.Sprint("the end of seed ", seed), d))
			want(t, fmt.Sprint("P13.10: seed ", seed), []any{f.Rows(), f.At() + 1, f.Clock()}, []any{s.Rows, s.Next, clock})
			ok(t, "P13.8", f.tries(t, "the whole log", whole))
		}
		ok(t, "P13.8", late.tries(t, "all at once", whole))
		want(t, fmt.Sprint("P13.10: seed ", seed), []any{late.Rows(), late.At() + 1, late.Clock()}, []any{s.Rows, s.Next, clock})
		if t.Failed() {
			t.FailNow()
		}
	}
	if trimmed < 300 {
		t.Errorf("%d segments were trimmed", trimmed)
	}
}

// P13.8 at random: logs that crash, lose what they had, go on otherwise, are trimmed too far, and devices of every kind.
func TestFollowersAtRandom(t *testing.T) {
	met := map[api.Errno]int{}
	for seed := int64(1); seed <= 1500; seed++ {
		r := rand.New(rand.NewSource(seed))
		d := device(t)
		o := api.LogOptions{Segment: 256, Batch: 2}
		l, _, e := redo.Open(d, o)
		ok(t, "Open", e)
		list := followers(2, 6)
		for range 40 {
			switch r.Intn(20) {
			case 0:
				ok(t, "Crash", d.Crash(r.Intn(3), r.Intn(60), r.Intn(60), r.Intn(60)))
				l, _, e = redo.Open(d, o)
				ok(t, "Open", e)
			case 1:
				l.Trim(l.Next() - uint64(r.Intn(4)))
			case 2:
				l.Sync()
			case 3:
				d = anyDevice(t, r)
				d.Crash(1000, all()...)
				l, _, e = redo.Open(d, o)
				ok(t, "Open", e)
			default:
				l.Append(someCommit(r, 3, 9))
			}
			for _, f := range list {
				if r.Intn(f.pace) == 0 {
					met[f.tries(t, fmt.Sprint("seed ", seed), d)]++
				}
			}
		}
		if t.Failed() {
			t.FailNow()
		}
	}
	if met[api.OK] < 1000 || met[api.ErrFork] < 1000 || met[api.ErrStale] < 500 {
		t.Errorf("met: %v", met)
	}
}
