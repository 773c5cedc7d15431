package revive_test

import (
	"cmp"
	"fmt"
	"maps"
	"regexp"
	"slices"
	"strconv"

	"strata/api"
	"strata/image"
	"strata/redo"
)

// The chapter written down a second time, plainly, on what Replay and Load answer.

// plainPlay plays commits on rows: one behind the other by their Stamps, those of one Stamp as they stand.
func plainPlay(rows []api.Row, cs []api.Commit) []api.Row {
	sorted := slices.Clone(cs)
	slices.SortStableFunc(sorted, func(a, b api.Commit) int { return cmp.Compare(a.Stamp, b.Stamp) })
	all := map[string]api.Row{}
	for _, r := range rows {
		all[r.Key] = r
	}
	for _, c := range sorted {
		for _, w := range c.Writes {
			if w.Kind == api.WriteDelete {
				delete(all, w.Key)
			} else {
				all[w.Key] = api.Row{Key: w.Key, Data: w.Data, Stamp: c.Stamp}
			}
		}
	}
	var list []api.Row
	for _, key := range slices.Sorted(maps.Keys(all)) {
		list = append(list, all[key])
	}
	return list
}

// plainRecover answers for Recover, and with at for AsOf, where there is a device and the arguments may be.
func plainRecover(d *redo.Device, at uint64) (api.State, api.Errno) {
	rows, m, e := image.Load(image.Files(d))
	if e != api.OK {
		return api.State{}, e
	}
	logged, marks, tail := redo.Replay(d)
	first := tail.Next
	if len(logged) > 0 {
		first = logged[0].Lsn
	}
	reaches := first == 1
	if m.Gen > 0 {
		reaches = reaches || len(marks) == 0 || slices.Max(marks) <= m.Upto
	}
	if !reaches {
		return api.State{}, api.ErrStale
	}
	s := api.State{Clock: m.Upto, Upto: m.Upto, Next: tail.Next, Tail: tail.Kind}
	times := slices.Clone(marks)
	var cs []api.Commit
	for _, l := range logged {
		times = append(times, l.Commit.Stamp)
		if l.Commit.Stamp > m.Upto {
			s.Played++
			if l.Commit.Stamp <= at {
				cs = append(cs, l.Commit)
			}
		}
	}
	if len(times) > 0 {
		s.Clock = max(s.Clock, slices.Max(times))
	}
	s.Rows = plainPlay(rows, cs)
	return s, api.OK
}

var kindsByName = []struct {
	kind int
	name *regexp.Regexp
}{
	{api.FileSegment, regexp.MustCompile(`^log-([0-9]{6})$`)},
	{api.FileData, regexp.MustCompile(`^data-([0-9]{8})$`)},
	{api.FileDelta, regexp.MustCompile(`^delta-([0-9]{8})-([0-9]{8})$`)},
	{api.FileManifest, regexp.MustCompile(`^manifest-([0-9]{8})$`)},
	{api.FileTemp, regexp.MustCompile(`^tmp-manifest-([0-9]{8})$`)},
}

// plainKind tells the kind of a name, and its numbers.
func plainKind(name string) (kind int, numbers []int) {
	for _, k := range kindsByName {
		found := k.name.FindStringSubmatch(name)
		if found == nil {
			continue
		}
		for _, digits := range found[1:] {
			n, _ := strconv.Atoi(digits)
			if n == 0 {
				return api.FileOther, nil
			}
			numbers = append(numbers, n)
		}
		return k.kind, numbers
	}
	return api.FileOther, nil
}

// plainTail tells how Replay ends on a copy of a device that keeps only some of the segments.
func plainTail(d *redo.Device, keeps func(name string) bool) int {
	c := d.Copy()
	c.Crash(1<<30, all()...) // it may have no power
	for _, f := range c.List() {
		if kind, _ := plainKind(f.Name); kind == api.FileSegment && !keeps(f.Name) {
			c.Remove(f.Name)
		}
	}
	_, _, tail := redo.Replay(c)
	return tail.Kind
}

// plainCode tells what is wrong with a checkpoint's file.
func plainCode(kind int, numbers []int, bytes string) api.Errno {
	var e api.Errno
	var within []int
	switch kind {
	case api.FileData:
		var p api.FilePair
		p, e = image.DecodeData(bytes)
		within = []int{p.Id}
	case api.FileDelta:
		var p api.FilePair
		p, e = image.DecodeDelta(bytes)
		within = []int{p.Id, p.Gen}
	case api.FileManifest, api.FileTemp:
		var m api.Manifest
		m, e = image.DecodeManifest(bytes)
		within = []int{m.Gen}
	}
	if e == api.OK && !slices.Equal(within, numbers) {
		return api.ErrForm
	}
	return e
}

// plainScrub answers for Scrub, where there is a device and the workers may be.
func plainScrub(d *redo.Device) []api.FileReport {
	needed := map[string]bool{}
	if _, m, e := image.Load(image.Files(d)); e == api.OK && m.Gen > 0 {
		needed[fmt.Sprintf("manifest-%08d", m.Gen)] = true
		for _, p := range m.Pairs {
			needed[fmt.Sprintf("data-%08d", p.Id)] = true
			needed[fmt.Sprintf("delta-%08d-%08d", p.Id, p.Gen)] = p.Gen > 0
		}
	}
	var list []api.FileReport
	for _, f := range d.List() {
		kind, numbers := plainKind(f.Name)
		r := api.FileReport{Name: f.Name, Kind: kind, Needed: needed[f.Name]}
		bytes, _ := d.Read(f.Name)
		if kind == api.FileSegment {
			r.Tail = plainTail(d, func(name string) bool { return name == f.Name })
			r.Needed = plainTail(d, func(name string) bool { return name <= f.Name }) != api.TailGap
		} else {
			r.Code = plainCode(kind, numbers, bytes)
		}
		list = append(list, r)
	}
	return list
}

// plainStandby holds all commits that it has played, as one log.
type plainStandby struct {
	cs []api.Commit
}

func (s *plainStandby) catch(d *redo.Device) (int, api.Errno) {
	logged, _, tail := redo.Replay(d)
	at := uint64(len(s.cs))
	if at >= tail.Next {
		return 0, api.ErrFork
	}
	first := tail.Next
	var more []api.Commit
	for i, l := range logged {
		if i == 0 {
			first = l.Lsn
		}
		if l.Lsn == at && bytesOf(l.Commit) != bytesOf(s.cs[at-1]) {
			return 0, api.ErrFork
		}
		if l.Lsn > at {
			more = append(more, l.Commit)
		}
	}
	if first > at+1 {
		return 0, api.ErrStale
	}
	s.cs = append(s.cs, more...)
	return len(more), api.OK
}

func (s *plainStandby) shown() string {
	clock := uint64(0)
	for _, c := range s.cs {
		clock = max(clock, c.Stamp)
	}
	return fmt.Sprintf("%+v at %d, clock %d", plainPlay(nil, s.cs), len(s.cs), clock)
}
