package revive_test

import (
	"fmt"
	"math/rand"
	"testing"

	"strata/api"
	"strata/image"
	"strata/redo"
	"strata/revive"
)

// anyLog gives segments that follow each other, most of the time, and are whole, most of the time.
func anyLog(r *rand.Rand) []api.File {
	var fs []api.File
	next, number := uint64(1), 0
	if r.Intn(2) == 0 {
		next = 1 + uint64(r.Intn(6))
	}
	for range r.Intn(5) {
		number += 1 + r.Intn(3)
		first := next
		if r.Intn(8) == 0 {
			first = 1 + uint64(r.Intn(12))
		}
		f := segment(number, first)
		for range r.Intn(4) {
			switch r.Intn(12) {
			case 0, 1:
				f.Bytes += mark(next, uint64(r.Intn(12)))
			case 2:
				f.Bytes += end(next)
			case 3:
				f.Bytes += data(next+1, someCommit(r, 3, 15))
			case 4:
				f.Bytes += frame(api.FrameData, next, "x")
			default:
				cs := someCommits(r, 1+r.Intn(3), 4, 15)
				f.Bytes += data(next, cs...)
				next += uint64(len(cs))
			}
		}
		switch r.Intn(8) {
		case 0:
			f.Bytes = f.Bytes[:r.Intn(len(f.Bytes)+1)]
		case 1:
			f.Name = fmt.Sprintf("log-%06d", number+r.Intn(2))
		}
		fs = append(fs, f)
	}
	return fs
}

// anyCheckpoints gives the files of some checkpoints of an image.
func anyCheckpoints(t *testing.T, r *rand.Rand) []api.File {
	im, _ := image.New(1 + r.Intn(3))
	var fs []api.File
	for range r.Intn(4) {
		for range r.Intn(4) {
			c := someCommit(r, 4, 15)
			c.Stamp = im.Upto() + c.Stamp%5
			im.Absorb(c)
		}
		if r.Intn(3) == 0 {
			im.Merge(r.Intn(2))
		}
		fs = append(fs, closed(t, im, im.Upto()+uint64(r.Intn(5)))...)
	}
	return fs
}

func otherFiles(r *rand.Rand) []api.File {
	names := []string{"notes", "log-000000", "log-00001", "data-00000000", "data-0000001", "delta-00000001", "manifest-00000000", "manifest-000000001", "tmp-manifest-00000001", "tmp-manifest-00000002", "data-00000050", "delta-00000001-00000050", "x.y_z-1"}
	var fs []api.File
	for range r.Intn(4) {
		fs = append(fs, api.File{Name: names[r.Intn(len(names))], Bytes: "some bytes of no kind"})
	}
	return fs
}

// anyDevice gives one with a log, checkpoints and other files, with damage, and with much that is volatile.
func anyDevice(t *testing.T, r *rand.Rand) *redo.Device {
	d := device(t)
	for _, f := range append(append(anyLog(r), anyCheckpoints(t, r)...), otherFiles(r)...) {
		n := r.Intn(len(f.Bytes) + 1)
		d.Create(f.Name)
		d.Append(f.Name, f.Bytes[:n])
		if r.Intn(2) == 0 {
			d.Sync(f.Name)
		}
		d.Append(f.Name, f.Bytes[n:])
		if r.Intn(6) == 0 {
			d.SyncDir()
		}
	}
	for range r.Intn(3) {
		list := d.List()
		if len(list) == 0 {
			break
		}
		f := list[r.Intn(len(list))]
		switch r.Intn(6) {
		case 0, 1:
			d.Rot(f.Name, r.Intn(f.Size+1), byte(1+r.Intn(255)))
		case 2:
			d.Remove(f.Name)
		case 3:
			d.Rename(f.Name, list[r.Intn(len(list))].Name)
		case 4:
			d.Rename(f.Name, fmt.Sprintf("manifest-%08d", 1+r.Intn(4)))
		case 5:
			d.Rename(f.Name, fmt.Sprintf("data-%08d", 1+r.Intn(4)))
		}
	}
	if r.Intn(5) == 0 {
		d.Cut(r.Intn(3))
	}
	return d
}

// P13.1, P13.5, P13.6: devices of every kind, with every kind of damage, against the chapter written down plainly.
func TestAgainstThePlain(t *testing.T) {
	met := map[string]int{}
	for seed := int64(1); seed <= 20000; seed++ {
		r := rand.New(rand.NewSource(seed))
		d := anyDevice(t, r)
		workers := 1 + r.Intn(api.MaxWorkers)
		state, e := plainRecover(d, api.MaxTime)
		got, code := revive.Recover(d, workers)
		want(t, fmt.Sprint("P13.1: seed ", seed), []any{got, code}, []any{state, e})
		for _, at := range []uint64{0, uint64(r.Intn(20)), state.Upto - min(state.Upto, 1), state.Upto, api.MaxTime} {
			then, e := plainRecover(d, at)
			if e == api.OK && at < then.Upto {
				then, e = api.State{}, api.ErrStale
				met["as of below Upto"]++
			}
			rows, code := revive.AsOf(d, workers, at)
			want(t, fmt.Sprintf("P13.5: seed %d, at %d", seed, at), []any{rows, code}, []any{then.Rows, e})
		}
		list, code := revive.Scrub(d, workers)
		want(t, fmt.Sprint("P13.6: seed ", seed), []any{list, code}, []any{plainScrub(d), api.OK})
		notice(d, state, e, list, met)
		if t.Failed() {
			t.FailNow()
		}
	}
	for what, least := range map[string]int{
		"error 126": 500, "error 130": 500, "state with a checkpoint": 500, "state, trimmed": 100, "played none of some": 100, "played some of more": 100, "as of below Upto": 500,
		"tail 0": 500, "tail 1": 200, "tail 2": 50, "tail 3": 50, "tail 4": 50, "tail 5": 20, "tail 6": 50, "tail 7": 100,
		"kind 1, tail 0, needed": 500, "kind 1, tail 0, not needed": 100, "kind 1, tail 1, needed": 100, "kind 1, tail 6, not needed": 20,
		"kind 2, code 0, needed": 500, "kind 2, code 0, not needed": 100, "kind 2, code 125": 50, "kind 2, code 124": 50, "kind 2, code 122": 50,
		"kind 3, code 0, needed": 200, "kind 3, code 0, not needed": 50, "kind 3, code 124": 20,
		"kind 4, code 0, needed": 500, "kind 4, code 0, not needed": 100, "kind 4, code 125": 50, "kind 4, code 122": 50,
		"kind 5, code 122": 50, "kind 0, code 0": 500,
	} {
		n := met[what]
		if n == 0 {
			n = met[what+", needed"] + met[what+", not needed"]
		}
		if n < least {
			t.Errorf("%s was met %d times, want at least %d", what, n, least)
		}
	}
}

// notice counts what a random device was a case of.
func notice(d *redo.Device, s api.State, e api.Errno, list []api.FileReport, met map[string]int) {
	if e != api.OK {
		met[fmt.Sprint("error ", e)]++
	} else {
		met[fmt.Sprint("tail ", s.Tail)]++
		logged, _, _ := redo.Replay(d)
		if s.Upto > 0 && len(logged) > 0 {
			met["state with a checkpoint"]++
			switch {
			case s.Played == 0:
				met["played none of some"]++
			case s.Played < len(logged):
				met["played some of more"]++
			}
			if logged[0].Lsn > 1 {
				met["state, trimmed"]++
			}
		}
	}
	for _, r := range list {
		what := fmt.Sprintf("kind %d, code %d", r.Kind, r.Code)
		if r.Kind == api.FileSegment {
			what = fmt.Sprintf("kind %d, tail %d", r.Kind, r.Tail)
		}
		if r.Needed {
			what += ", needed"
		} else {
			what += ", not needed"
		}
		met[what]++
	}
}
