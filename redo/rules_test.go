package redo_test

import (
	"fmt"
	"math"
	"math/rand"
	"slices"
	"strings"
	"testing"

	"strata/api"
	"strata/redo"
)

func anyNumber(r *rand.Rand) int { return strange()[r.Intn(len(strange()))] }

func anyLsn(r *rand.Rand) uint64 {
	all := []uint64{0, 1, 2, 3, 1 << 32, api.MaxTime - 1, api.MaxTime, api.MaxTime + 1, 1 << 63, math.MaxUint64 - 1, math.MaxUint64}
	return all[r.Intn(len(all))]
}

var someTexts = []string{"", "a", "b", "log-000001", "log-000002", "log-999999", "log-000000", "log--00001", "A", "\x00", "ä", strings.Repeat("a", 32), strings.Repeat("a", 33), strings.Repeat("\xff", 30), strings.Repeat("\x80", 12), data(1, c1()), headOf(1, 1), strings.Repeat("x", 2000000), "\x05\x01\x01" + strings.Repeat("\xff", 9) + "\x01"}

func anyText(r *rand.Rand) string { return someTexts[r.Intn(len(someTexts))] }

func anyWrites(r *rand.Rand) []api.Write {
	var list []api.Write
	for range r.Intn(4) {
		list = append(list, api.Write{Kind: anyNumber(r), Key: anyText(r), Data: anyText(r)})
	}
	if r.Intn(20) == 0 {
		list = make([]api.Write, 100000)
	}
	return list
}

// P0.1: whatever is asked, nothing panics, and all ends.
func TestAnyArguments(t *testing.T) {
	for seed := range int64(300) {
		r := rand.New(rand.NewSource(seed))
		d, _ := redo.NewDevice(anyNumber(r))
		if seed%4 > 0 {
			d = device(t, 3000)
		}
		var l *redo.Log
		for range 300 {
			a, b, n := anyText(r), anyText(r), anyNumber(r)
			switch r.Intn(24) {
			case 0:
				redo.NewDevice(n)
			case 1, 2:
				d.Create(a)
			case 3:
				d.Append(a, b)
			case 4:
				d.Sync(a)
			case 5:
				d.Rename(a, b)
			case 6:
				d.Remove(a)
				d.SyncDir()
			case 7:
				d.Read(a)
				d.List()
				d.Room()
				d.Changes()
			case 8:
				d.Cut(n)
			case 9:
				d.Crash(n, n, anyNumber(r), anyNumber(r))
			case 10:
				d.Crash(n, make([]int, 3000)...)
			case 11:
				d.Rot(a, n, byte(n))
			case 12:
				d = d.Copy()
			case 13:
				redo.EncodeCommit(api.Commit{Stamp: anyLsn(r), Writes: anyWrites(r)})
				redo.DecodeCommit(a)
				redo.DecodeCommit(a + b)
			case 14:
				redo.EncodeFrame(api.Frame{Kind: n, Lsn: anyLsn(r), Body: a})
				redo.FrameCommits(a + b)
			case 15:
				redo.DecodeFrame(a+b, n)
			case 16:
				redo.Replay(d)
				for range redo.Since(d, anyLsn(r)) {
					if r.Intn(3) == 0 {
						break
					}
				}
			case 17:
				x, _, e := redo.Open(d, api.LogOptions{Segment: n, Batch: anyNumber(r), First: anyLsn(r)})
				want(t, "P11.18: a log or an error", x != nil, e == api.OK)
				if x != nil {
					l = x
				}
			case 18:
				if x, _, _ := redo.Open(d, options(0)); x != nil {
					l = x
				}
			case 19:
				l.Append(api.Commit{Stamp: anyLsn(r), Writes: anyWrites(r)})
			case 20:
				l.Append(anyCommit(r, 1))
				l.Flush()
			case 21:
				l.Sync()
				l.Next()
				l.Durable()
			case 22:
				l.Mark(anyLsn(r))
			case 23:
				l.Trim(anyLsn(r))
			}
		}
	}
}

// P0.1: what is handed in is neither changed nor kept.
func TestWhatIsHandedIn(t *testing.T) {
	d := device(t, 1000)
	lay(t, d, "a", "abcdef", 1)
	lay(t, d, "b", "abcdef", 1)
	ok(t, "SyncDir", d.SyncDir())
	c := d.Copy()
	keep := []int{2, 1 << 60, -7, 4}
	ok(t, "Crash", d.Crash(0, keep[:3]...))
	want(t, "P0.1: keep is not changed", keep, []int{2, 1 << 60, -7, 4})
	keep[0], keep[1] = 0, 0
	want(t, "P0.1: nor kept", look(d), "a 3/3 0 \"abc\"\nb 6/6 0 \"abcdef\"\n0 changes, room 991, 1022")
	ok(t, "Crash", c.Crash(0, keep...))
	writes := []api.Write{put("a", "1"), del("b"), put("spare", "")}
	x := commit(11, writes[:2]...)
	text, _ := redo.EncodeCommit(x)
	l := open(t, d, options(0))
	append1(t, l, x)
	want(t, "P0.1: a commit is not changed", writes, []api.Write{put("a", "1"), del("b"), put("spare", "")})
	writes[0] = put("zz", "")
	ok(t, "Flush", l.Flush())
	commits, _, _ := redo.Replay(d)
	want(t, "P0.1: nor kept", []any{text, commits}, []any{bytesOf(c1()), []api.Logged{logged(1, c1())}})
}

// spoil writes over a list, and behind it.
func spoil[T any](list []T) {
	var zero T
	for i := range list {
		list[i] = zero
	}
	_ = append(list, zero, zero, zero)
	full := list[:cap(list)]
	for i := range full {
		full[i] = zero
	}
}

// P0.1: each list that is answered is new memory, all through.
func TestAnswersAreNewMemory(t *testing.T) {
	d := log(t, headOf(1, 1)+data(1, c1(), c2())+mark(3, 9)+mark(3, 8)+data(3, c3()))
	right := fmt.Sprint(d.List())
	a, b := d.List(), d.List()
	spoil(a)
	want(t, "P11.6: List", []string{fmt.Sprint(b), fmt.Sprint(d.List())}, []string{right, right})
	commits, marks, _ := redo.Replay(d)
	told := fmt.Sprint(commits, marks)
	others, otherMarks, _ := redo.Replay(d)
	var since []api.Commit
	for _, c := range redo.Since(d, 0) {
		since = append(since, c)
	}
	sinceTold := fmt.Sprint(since)
	// each of one answer's lists by itself
	for i := range commits {
		before := fmt.Sprint(slices.Delete(slices.Clone(commits), i, i+1))
		spoil(commits[i].Commit.Writes)
		want(t, "P11.16: the writes of one commit", fmt.Sprint(slices.Delete(slices.Clone(commits), i, i+1)), before)
	}
	spoil(commits)
	spoil(marks)
	want(t, "P11.16: another answer", []string{fmt.Sprint(others, otherMarks), fmt.Sprint(since)}, []string{told, sinceTold})
	for _, c := range redo.Since(d, 0) {
		spoil(c.Writes)
	}
	others, otherMarks, _ = redo.Replay(d)
	want(t, "P11.17: a later answer", fmt.Sprint(others, otherMarks), told)
	body := bodyOf(c1(), c2(), c3())
	x, _ := redo.FrameCommits(body)
	y, _ := redo.FrameCommits(body)
	for i := range x {
		spoil(x[i].Writes)
	}
	spoil(x)
	want(t, "P11.15", y, []api.Commit{c1(), c2(), c3()})
	p, _ := redo.DecodeCommit(bytesOf(c1()))
	q, _ := redo.DecodeCommit(bytesOf(c1()))
	spoil(p.Writes)
	want(t, "P11.12", q, c1())
	l := open(t, d, options(0))
	append1(t, l, c1())
	append1(t, l, c1())
	first, _ := l.Sync()
	append1(t, l, c2())
	second, _ := l.Sync()
	spoil(first)
	want(t, "P11.21", []any{second, l.Next(), l.Durable()}, []any{[]uint64{6}, 7, 6})
	spoil(second)
	want(t, "P11.21", []any{l.Next(), l.Durable()}, []any{7, 6})
}

// tale makes one device's calls of a seed, a few at a time.
func tale(t *testing.T, seed int64) func() string {
	w := begun(t, seed, map[string]int{})
	return func() string {
		for range 20 {
			w.step(true)
		}
		return look(w.d) + fmt.Sprint(redo.Replay(w.d))
	}
}

// P0.1: the same calls are answered alike, and devices have nothing in common: their calls may come in between each other.
func TestNothingInCommon(t *testing.T) {
	for seed := int64(1); seed < 20; seed++ {
		var alone [2][]string
		for i := range alone {
			next := tale(t, seed+int64(i))
			for range 10 {
				alone[i] = append(alone[i], next())
			}
		}
		one, two := tale(t, seed), tale(t, seed+1)
		for i := range 10 {
			want(t, "the first", one(), alone[0][i])
			want(t, "the second", two(), alone[1][i])
		}
	}
}
