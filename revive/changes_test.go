package revive_test

import (
	"fmt"
	"math/rand"
	"testing"

	"strata/api"
	"strata/redo"
	"strata/revive"
)

// unsettled is a device much of which is volatile: bytes of the log and of a checkpoint, files that were made, named anew and removed.
func unsettled(t *testing.T) (*redo.Device, *redo.Log) {
	d, l := opened(t, three()...)
	for _, c := range story()[:3] {
		_, e := l.Append(c)
		ok(t, "Append", e)
	}
	fs := checkpoint(t, 3, three()...)
	lay(t, d, fs[0])
	temp := "tmp-" + fs[1].Name
	ok(t, "a checkpoint that is volatile", l.Flush(), d.Create(temp), d.Append(temp, fs[1].Bytes[:9]), d.Sync(temp), d.Append(temp, fs[1].Bytes[9:]), d.Rename(temp, fs[1].Name),
		d.Create("notes"), d.Append("notes", "note"), d.Create("gone"), d.Remove("gone"))
	return d, l
}

// asked makes all calls of a device, and tells their answers.
func asked(d *redo.Device) string {
	text := ""
	for _, workers := range []int{1, 4, 16} {
		s, e := revive.Recover(d, workers)
		text += fmt.Sprintf("%+v %d\n", s, e)
		for _, at := range []uint64{0, 3, 5, api.MaxTime} {
			rows, e := revive.AsOf(d, workers, at)
			text += fmt.Sprintf("%+v %d\n", rows, e)
		}
		list, e := revive.Scrub(d, workers)
		text += fmt.Sprintf("%+v %d\n", list, e)
	}
	standby := revive.NewStandby()
	n, e := standby.Catch(d)
	return text + fmt.Sprintf("%d %d %s", n, e, shown(standby))
}

// P13.3: nothing changes: not the answers, not the files, not what a crash would keep, not the power, not the logs.
func TestNothingChanges(t *testing.T) {
	for _, power := range []int{-1, 0, 1, 5} {
		d, l := unsettled(t)
		twin, _ := unsettled(t)
		ok(t, "Cut", d.Cut(power), twin.Cut(power))
		before, told := deep(d), asked(d)
		for range 3 {
			want(t, "P13.3: the answers", asked(d), told)
			want(t, "P13.3: the device", deep(d), before)
		}
		want(t, "P13.3: the twin that was not asked", deep(twin), before)
		_, e := l.Append(commit(20, put("z", "")))
		ok(t, "P13.3: the log has not stopped", e)
		if power < 0 {
			_, e := l.Sync()
			ok(t, "P13.3: the log has not stopped", e)
		}
	}
	// one that has no power any more
	d, _ := unsettled(t)
	ok(t, "Cut", d.Cut(0))
	want(t, "no power", d.SyncDir(), api.ErrPower)
	before, told := deep(d), asked(d)
	want(t, "P13.3: no power", []any{asked(d), deep(d)}, []any{told, before})
}

// P13.3: a crash behind each call that keeps nothing takes away what was volatile, as it would without the call.
func TestCrashBehindACall(t *testing.T) {
	plain, _ := unsettled(t)
	alive := asked(plain)
	plain.Crash(0)
	right := look(plain)
	standby := revive.NewStandby()
	for what, call := range map[string]func(d *redo.Device){
		"none":    func(d *redo.Device) {},
		"Recover": func(d *redo.Device) { revive.Recover(d, 4) },
		"AsOf":    func(d *redo.Device) { revive.AsOf(d, 4, 5) },
		"Scrub":   func(d *redo.Device) { revive.Scrub(d, 4) },
		"Catch":   func(d *redo.Device) { standby.Catch(d) },
		"all":     func(d *redo.Device) { asked(d) },
	} {
		d, _ := unsettled(t)
		call(d)
		ok(t, "Crash", d.Crash(0))
		want(t, "P13.3: a crash behind "+what, look(d), right)
	}
	want(t, "P13.3: what was volatile was told, and is gone", alive == asked(plain), false)
	recovers(t, "behind the crash", plain, api.State{Rows: []api.Row{row("b", "y", 2)}, Clock: 5, Next: 4, Played: 3})
}

// P13.3 at random: devices of every kind are what they were.
func TestNothingChangesAtRandom(t *testing.T) {
	for seed := int64(1); seed <= 300; seed++ {
		d := anyDevice(t, rand.New(rand.NewSource(seed)))
		before := deep(d)
		told := asked(d)
		want(t, fmt.Sprint("P13.3: seed ", seed), []any{asked(d), deep(d)}, []any{told, before})
	}
}
