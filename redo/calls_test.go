package redo_test

import (
	"fmt"
	"testing"

	"strata/api"
	"strata/redo"
)

// scene is a call of a log, and the calls of the device that it makes, in their order.
type scene struct {
	build func(t *testing.T) (*redo.Device, *redo.Log)
	call  func(d *redo.Device, l *redo.Log) api.Errno
	right func(d *redo.Device) []func() api.Errno
}

// The calls of a device, to be made later.

type later = func() api.Errno

func createLater(d *redo.Device, n int) later { return func() api.Errno { return d.Create(nameOf(n)) } }
func appendLater(d *redo.Device, n int, s string) later {
	return func() api.Errno { return d.Append(nameOf(n), s) }
}
func syncLater(d *redo.Device, n int) later   { return func() api.Errno { return d.Sync(nameOf(n)) } }
func removeLater(d *redo.Device, n int) later { return func() api.Errno { return d.Remove(nameOf(n)) } }

// beginLater are the calls by which a segment begins.
func beginLater(d *redo.Device, n int, first uint64) []later {
	return []later{createLater(d, n), appendLater(d, n, headOf(n, first)), syncLater(d, n), d.SyncDir}
}

// turnLater are those by which a log turns from segment n to the next one.
func turnLater(d *redo.Device, n int, lsn uint64) []later {
	return append([]later{appendLater(d, n, end(lsn)), syncLater(d, n)}, beginLater(d, n+1, lsn)...)
}

func openScene(first uint64, segments []string, right func(d *redo.Device) []later) scene {
	return scene{
		func(t *testing.T) (*redo.Device, *redo.Log) { return log(t, segments...), nil },
		func(d *redo.Device, _ *redo.Log) api.Errno {
			_, _, e := redo.Open(d, options(first))
			return e
		},
		right,
	}
}

// written is a log whose first segment has a frame of that size (which is not synced), and these commits in its buffer.
func written(size, batch int, list ...api.Commit) func(t *testing.T) (*redo.Device, *redo.Log) {
	return func(t *testing.T) (*redo.Device, *redo.Log) {
		d := device(t, 10000)
		l := open(t, d, api.LogOptions{Segment: 256, Batch: batch})
		append1(t, l, sized(1, size-24))
		ok(t, "Flush", l.Flush())
		for _, c := range list {
			append1(t, l, c)
		}
		return d, l
	}
}

func flush(_ *redo.Device, l *redo.Log) api.Errno { return l.Flush() }
func sync(_ *redo.Device, l *redo.Log) api.Errno  { _, e := l.Sync(); return e }
func mark5(_ *redo.Device, l *redo.Log) api.Errno { return l.Mark(5) }
func more(_ *redo.Device, l *redo.Log) api.Errno  { _, e := l.Append(c3()); return e }

func trim(lsn uint64) func(*redo.Device, *redo.Log) api.Errno {
	return func(_ *redo.Device, l *redo.Log) api.Errno { _, e := l.Trim(lsn); return e }
}

func scenes() map[string]scene {
	nothing := func(*redo.Device) []later { return nil }
	frame := data(2, c2())
	return map[string]scene{
		"Open of an empty device": openScene(0, nil, func(d *redo.Device) []later { return beginLater(d, 1, 1) }),
		"Open, none is removed": openScene(0, []string{headOf(1, 1) + data(1, c1()), headOf(2, 2) + data(2, c2()) + "torn"}, func(d *redo.Device) []later {
			return append([]later{syncLater(d, 1), syncLater(d, 2)}, beginLater(d, 3, 3)...)
		}),
		"Open, some are removed": openScene(0, []string{headOf(1, 1) + data(1, c1()), headOf(2, 2) + "torn", headOf(3, 2) + mark(2, 4), headOf(4, 7) + data(7, c1()), headOf(5, 2) + data(2, c1())}, func(d *redo.Device) []later {
			calls := append([]later{syncLater(d, 1), syncLater(d, 2), syncLater(d, 3), syncLater(d, 4), syncLater(d, 5)}, beginLater(d, 6, 2)...)
			return append(calls, removeLater(d, 5), removeLater(d, 4), removeLater(d, 2), d.SyncDir)
		}),
		"Open, First above": openScene(9, []string{headOf(1, 1) + data(1, c1()), headOf(2, 2) + data(2, c2())}, func(d *redo.Device) []later {
			calls := append([]later{syncLater(d, 1), syncLater(d, 2)}, beginLater(d, 3, 9)...)
			return append(calls, removeLater(d, 2), removeLater(d, 1), d.SyncDir)
		}),
		"Append":                   {written(60, 4, c2()), more, nothing},
		"Append, a full buffer":    {written(60, 1, c2()), more, func(d *redo.Device) []later { return []later{appendLater(d, 1, frame)} }},
		"Append, and a turn":       {written(200, 1, c2()), more, func(d *redo.Device) []later { return append(turnLater(d, 1, 2), appendLater(d, 2, frame)) }},
		"Flush of an empty buffer": {written(60, 4), flush, nothing},
		"Flush":                    {written(60, 4, c2()), flush, func(d *redo.Device) []later { return []later{appendLater(d, 1, frame)} }},
		"Flush and a turn":         {written(200, 4, c2()), flush, func(d *redo.Device) []later { return append(turnLater(d, 1, 2), appendLater(d, 2, frame)) }},
		"Sync of an empty buffer":  {written(60, 4), sync, func(d *redo.Device) []later { return []later{syncLater(d, 1)} }},
		"Sync":                     {written(60, 4, c2()), sync, func(d *redo.Device) []later { return []later{appendLater(d, 1, frame), syncLater(d, 1)} }},
		"Sync and a turn": {written(200, 4, c2()), sync, func(d *redo.Device) []later {
			return append(turnLater(d, 1, 2), appendLater(d, 2, frame), syncLater(d, 2))
		}},
		"Mark":                {written(60, 4), mark5, func(d *redo.Device) []later { return []later{appendLater(d, 1, mark(2, 5))} }},
		"Mark and a turn":     {written(200, 4), mark5, func(d *redo.Device) []later { return append(turnLater(d, 1, 2), appendLater(d, 2, mark(2, 5))) }},
		"Mark behind a flush": {written(60, 4, c2()), mark5, func(d *redo.Device) []later { return []later{appendLater(d, 1, frame), appendLater(d, 1, mark(3, 5))} }},
		"Mark behind a flush's turn": {written(200, 4, c2()), mark5, func(d *redo.Device) []later {
			return append(turnLater(d, 1, 2), appendLater(d, 2, frame), appendLater(d, 2, mark(3, 5)))
		}},
		"Mark whose flush turns not, but itself": {written(256-24-24-len(frame), 4, c2()), mark5, func(d *redo.Device) []later {
			return append(append([]later{appendLater(d, 1, frame)}, turnLater(d, 1, 3)...), appendLater(d, 2, mark(3, 5)))
		}},
		"Trim of none": {trimmable, trim(1), nothing},
		"Trim of two":  {trimmable, trim(2), func(d *redo.Device) []later { return []later{removeLater(d, 1), removeLater(d, 2), d.SyncDir} }},
		"Trim of all": {trimmable, trim(api.MaxTime), func(d *redo.Device) []later {
			return []later{removeLater(d, 1), removeLater(d, 2), removeLater(d, 3), removeLater(d, 4), removeLater(d, 5), d.SyncDir}
		}},
	}
}

// P11.18, P11.20, P11.21, P11.22, P11.24: the calls of the device, one by one, by a Cut behind each of them.
func TestCallsOfTheDevice(t *testing.T) {
	for what, s := range scenes() {
		refusal := api.ErrPower
		if d, l := s.build(t); l != nil {
			refusal = api.ErrHalt
			ok(t, what+", as it is", s.call(d, l))
		}
		total := len(s.right(nil))
		for n := range total + 3 {
			d, l := s.build(t)
			twin := d.Copy()
			ok(t, "Cut", d.Cut(n))
			e := s.call(d, l)
			for i, call := range s.right(twin) {
				if i < n {
					ok(t, fmt.Sprintf("%s: call %d by hand", what, i), call())
				}
			}
			if a, b := deep(d), deep(twin); a != b {
				t.Errorf("%s: behind %d calls of the device:\n%s\nwant\n%s", what, n, a, b)
			}
			left, dead := powerOf(d)
			if n < total {
				want(t, fmt.Sprintf("%s, cut behind %d calls", what, n), []any{e, left, dead}, []any{refusal, 0, true})
			} else {
				want(t, fmt.Sprintf("%s, of %d calls, cut behind %d", what, total, n), []any{e, left, dead}, []any{api.OK, n - total, false})
			}
		}
	}
}
