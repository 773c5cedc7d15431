package revive_test

import (
	"fmt"
	"math/rand"
	"runtime"
	"testing"
	"time"

	"strata/api"
	"strata/image"
	"strata/redo"
	"strata/revive"
)

// someCommit writes some of the keys, with a stamp of 1 to most.
func someCommit(r *rand.Rand, keys int, most uint64) api.Commit {
	c := commit(1 + r.Uint64()%most)
	for key := range keys {
		switch r.Intn(5) {
		case 0, 1:
			c.Writes = append(c.Writes, put(fmt.Sprintf("k%03d", key), fmt.Sprint(r.Intn(1000))))
		case 2:
			c.Writes = append(c.Writes, del(fmt.Sprintf("k%03d", key)))
		}
	}
	if len(c.Writes) == 0 {
		c.Writes = append(c.Writes, put("k", ""))
	}
	return c
}

func someCommits(r *rand.Rand, n, keys int, most uint64) []api.Commit {
	var cs []api.Commit
	for range n {
		cs = append(cs, someCommit(r, keys, most))
	}
	return cs
}

// crowded is a device with a checkpoint and a long log above it, in which many commits have the same stamps and keys.
func crowded(t *testing.T, seed int64) *redo.Device {
	r := rand.New(rand.NewSource(seed))
	im, e := image.New(8)
	ok(t, "New", e)
	var base []api.Commit
	for stamp := uint64(1); stamp <= 10; stamp++ {
		c := someCommit(r, 40, 1)
		c.Stamp = stamp
		base = append(base, c)
	}
	cs := append(base, someCommits(r, 150, 40, 30)...)
	var frames []string
	for i, c := range cs {
		frames = append(frames, data(uint64(i+1), c))
	}
	return laid(t, closed(t, im, 10, base...), []api.File{segment(1, 1, frames...), segment(2, 161), segment(4, 200), {Name: "notes"}, {Name: "data-00000099", Bytes: "x"}})
}

// answers tells what a device is answered with so many workers.
func answers(t *testing.T, d *redo.Device, workers int) string {
	t.Helper()
	s, e := revive.Recover(d, workers)
	ok(t, "P13.2: Recover", e)
	rows, e := revive.AsOf(d, workers, 17)
	ok(t, "P13.2: AsOf", e)
	list, e := revive.Scrub(d, workers)
	ok(t, "P13.2: Scrub", e)
	return fmt.Sprintf("%+v\n%+v\n%+v", s, rows, list)
}

// P13.2: every number of workers, many times over, with one processor and with several, against one worker.
func TestWorkers(t *testing.T) {
	defer runtime.GOMAXPROCS(runtime.GOMAXPROCS(0))
	for seed := int64(1); seed <= 2; seed++ {
		d := crowded(t, seed)
		right := answers(t, d, 1)
		state, _ := plainRecover(d, api.MaxTime)
		old, _ := plainRecover(d, 17)
		want(t, "P13.2: one worker", right, fmt.Sprintf("%+v\n%+v\n%+v", state, old.Rows, plainScrub(d)))
		if len(state.Rows) < 10 || len(old.Rows) < 10 {
			t.Fatalf("%d rows and %d are too few", len(state.Rows), len(old.Rows))
		}
		for _, processors := range []int{1, 2, 4, 8} {
			runtime.GOMAXPROCS(processors)
			for workers := 1; workers <= api.MaxWorkers; workers++ {
				for range 8 {
					if got := answers(t, d, workers); got != right {
						t.Fatalf("P13.2: %d workers on %d processors: %.900s, want %.900s", workers, processors, got, right)
					}
				}
			}
		}
	}
}

// settled waits till there are no more goroutines than before: one that has ended may still be counted for a moment.
func settled(t *testing.T, what string, before int) {
	t.Helper()
	for wait := time.Microsecond; runtime.NumGoroutine() > before; wait *= 2 {
		if wait > time.Second {
			t.Fatalf("P13.2: %s: %d goroutines, and %d before it", what, runtime.NumGoroutine(), before)
		}
		time.Sleep(wait)
	}
}

// P13.2: no goroutine is left when the answer comes, also where it is an error.
func TestNoGoroutineIsLeft(t *testing.T) {
	good := crowded(t, 5)
	devices := []*redo.Device{nil, {}, device(t), good, laid(t, []api.File{{Name: "manifest-00000001"}}), laid(t, log(4, three()...)), laid(t, log(1, three()...))}
	standby := revive.NewStandby()
	for _, d := range devices {
		for workers := range api.MaxWorkers + 2 {
			before := runtime.NumGoroutine()
			revive.Recover(d, workers)
			settled(t, "Recover", before)
			for _, at := range []uint64{0, 5, 20, api.MaxTime, api.MaxTime + 1} {
				revive.AsOf(d, workers, at)
				settled(t, "AsOf", before)
			}
			revive.Scrub(d, workers)
			settled(t, "Scrub", before)
			standby.Catch(d)
			standby.Rows()
			settled(t, "Catch", before)
		}
	}
}

// P13.2, P0.1: recoveries of devices that have nothing in common may run beside each other.
func TestRecoveriesBesideEachOther(t *testing.T) {
	d := crowded(t, 6)
	right := answers(t, d, 3)
	done := make(chan string)
	for i := range api.MaxWorkers {
		own := d.Copy()
		go func() { done <- answers(t, own, i+1) }()
	}
	for range api.MaxWorkers {
		if got := <-done; got != right {
			t.Errorf("P13.2: %.900s, want %.900s", got, right)
		}
	}
}
