package revive_test

import (
	"fmt"
	"math/rand"
	"runtime"
	"testing"

	"strata/api"
	"strata/image"
	"strata/redo"
	"strata/revive"
)

// P0.1: no call panics, at any argument, and each ends.
func TestNoPanics(t *testing.T) {
	for seed := int64(1); seed <= 300; seed++ {
		r := rand.New(rand.NewSource(seed))
		devices := append(none(t), anyDevice(t, r), anyDevice(t, r))
		standbys := []*revive.Standby{nil, {}, new(revive.Standby), revive.NewStandby()}
		for range 40 {
			d := devices[r.Intn(len(devices))]
			workers := strange()[r.Intn(len(strange()))]
			s := standbys[r.Intn(len(standbys))]
			switch r.Intn(5) {
			case 0:
				revive.Recover(d, workers)
			case 1:
				revive.AsOf(d, workers, strangeTimes()[r.Intn(len(strangeTimes()))])
			case 2:
				revive.Scrub(d, workers)
			case 3:
				s.Catch(d)
			case 4:
				_ = shown(s)
			}
		}
	}
}

// spoil writes over a list, and behind it.
func spoil[T any](list []T) {
	var zero T
	_ = append(list, zero, zero, zero)
	full := list[:cap(list)]
	for i := range full {
		full[i] = zero
	}
}

// P0.1: each list that is answered is new memory.
func TestAnswersAreNewMemory(t *testing.T) {
	d := crowded(t, 7)
	standby := revive.NewStandby()
	_, e := standby.Catch(d)
	ok(t, "P13.8", e)
	right := asked(d) + shown(standby)
	s, _ := revive.Recover(d, 3)
	rows, _ := revive.AsOf(d, 3, 17)
	list, _ := revive.Scrub(d, 3)
	mine := standby.Rows()
	told := fmt.Sprintf("%+v %+v %+v %+v", s, rows, list, mine)
	for range 2 {
		s, _ := revive.Recover(d, 3)
		rows, _ := revive.AsOf(d, 3, 17)
		list, _ := revive.Scrub(d, 3)
		spoil(s.Rows)
		spoil(rows)
		spoil(list)
		spoil(standby.Rows())
	}
	want(t, "P0.1: other answers", fmt.Sprintf("%+v %+v %+v %+v", s, rows, list, mine), told)
	spoil(s.Rows)
	spoil(rows)
	spoil(list)
	spoil(mine)
	want(t, "P0.1: later answers", asked(d)+shown(standby), right)
}

// P0.1: a device that is handed in is neither changed (P13.3) nor kept: what becomes of it later changes no answer, and no standby.
func TestWhatIsHandedIn(t *testing.T) {
	d, l := opened(t, story()...)
	lay(t, d, checkpoint(t, 4, story()[1])...)
	standby := revive.NewStandby()
	_, e := standby.Catch(d)
	ok(t, "P13.8", e)
	s, _ := revive.Recover(d, 3)
	rows, _ := revive.AsOf(d, 3, 9)
	list, _ := revive.Scrub(d, 3)
	told := fmt.Sprintf("%+v %+v %+v %s", s, rows, list, shown(standby))
	durable(t, l, commit(50, put("a", "50"), put("new", "")))
	for _, f := range d.List() {
		for at := range f.Size {
			d.Rot(f.Name, at, 255)
		}
		d.Remove(f.Name)
	}
	ok(t, "Crash", d.SyncDir(), d.Crash(0))
	want(t, "P0.1: not kept", fmt.Sprintf("%+v %+v %+v %s", s, rows, list, shown(standby)), told)
	// the last commit is known without the device, too
	again, _ := opened(t, append(story(), commit(51, put("x", "51")))...)
	catches(t, "the same log elsewhere", standby, again, 1, api.OK)
}

// P0.1: the same calls are answered alike, and standbys have nothing in common.
func TestNothingInCommon(t *testing.T) {
	one, two := laid(t, log(1, story()...)), laid(t, log(1, three()...))
	a, b, alone := revive.NewStandby(), revive.NewStandby(), revive.NewStandby()
	catches(t, "the first", a, one, 10, api.OK)
	stands(t, "the second", b, 0, 0)
	catches(t, "the second", b, two, 3, api.OK)
	catches(t, "a third", alone, one, 10, api.OK)
	want(t, "P0.1: the first", shown(a), shown(alone))
	stands(t, "the second", b, 3, 5, row("b", "y", 2))
	for seed := int64(1); seed <= 50; seed++ {
		d, twin := anyDevice(t, rand.New(rand.NewSource(seed))), anyDevice(t, rand.New(rand.NewSource(seed)))
		told := asked(d)
		asked(one)
		want(t, "P0.1: the same calls", []any{asked(twin), asked(d.Copy())}, []any{told, told})
	}
}

// A standby keeps no more than what it needs: not the whole log for each key that is in it.
func TestStandbyIsSmall(t *testing.T) {
	d := device(t)
	l, _, e := redo.Open(d, api.LogOptions{Segment: api.MaxSegment, Batch: 1})
	ok(t, "Open", e)
	filler := commit(1)
	for i := range 100 {
		filler.Writes = append(filler.Writes, put(fmt.Sprintf("filler%03d", i), string(make([]byte, 500))))
	}
	standby := revive.NewStandby()
	durable(t, l, filler, filler, filler, filler)
	var before, after runtime.MemStats
	runtime.GC()
	runtime.ReadMemStats(&before)
	for i := range 400 {
		durable(t, l, commit(2, put(fmt.Sprintf("key%03d", i), "x")))
		catches1(t, standby, d)
	}
	runtime.GC()
	runtime.ReadMemStats(&after)
	if grown := int64(after.HeapAlloc) - int64(before.HeapAlloc); grown > 16<<20 {
		t.Errorf("400 keys take %d bytes", grown)
	}
	want(t, "P13.9", []any{len(standby.Rows()), standby.At()}, []any{500, 404})
}

func catches1(t *testing.T, s *revive.Standby, d *redo.Device) {
	t.Helper()
	_, e := s.Catch(d)
	ok(t, "P13.8", e)
}

// Recovery behind a checkpoint that Saver has laid down, with its mark, and a trim: the layers as they are used together.
func TestLayersTogether(t *testing.T) {
	for seed := int64(1); seed <= 200; seed++ {
		r := rand.New(rand.NewSource(seed))
		d := device(t)
		l, _, e := redo.Open(d, api.LogOptions{Segment: 300, Batch: 2})
		ok(t, "Open", e)
		im, e := image.New(3)
		ok(t, "New", e)
		var cs []api.Commit
		for stamp := uint64(1); stamp <= 30; stamp++ {
			c := someCommit(r, 4, 1)
			c.Stamp = stamp
			cs = append(cs, c)
			durable(t, l, c)
			_, e := im.Absorb(c)
			ok(t, "Absorb", e)
			if r.Intn(6) == 0 {
				fs, e := im.Close(stamp)
				s, e2 := image.NewSaver(d, fs)
				ok(t, "Close", e, e2)
				for !s.Step() {
				}
				ok(t, "Saver", s.Code(), l.Mark(stamp))
				_, e = l.Sync()
				_, e2 = l.Trim(stamp)
				_, e3 := image.Clean(d)
				ok(t, "behind a checkpoint", e, e2, e3)
			}
			ok(t, "Crash", d.Crash(0))
			l, _, e = redo.Open(d, api.LogOptions{Segment: 300, Batch: 2})
			ok(t, "Open", e)
			s, e := revive.Recover(d, 1+r.Intn(16))
			want(t, fmt.Sprint("P13.1: seed ", seed), []any{s.Rows, s.Clock, s.Upto, s.Next, s.Played, e}, []any{plainPlay(nil, cs), stamp, im.Upto(), stamp + 1, int(stamp - im.Upto()), api.OK})
		}
		if t.Failed() {
			t.FailNow()
		}
	}
}
