package store_test

import (
	"fmt"
	"strings"
	"testing"

	"strata/api"
	"strata/image"
	"strata/redo"
	"strata/store"
)

// busy hands in what no play has ended: two ticks of one PLAY among it.
const busy = "@3 BEGIN; PLAY x'4040'; @1 BEGIN; TICK 2; @2 BEGIN; @3 COMMIT; "

// P17.10: a store falls with the first error; what is lost then is told by the numbers of the commands, ahead of the command's own reply, which has no numbers.
func TestFalls(t *testing.T) {
	for _, c := range []struct {
		command string
		right   string
	}{
		{"FLUSH", "FLUSH E118"},
		{"SYNC", "SYNC E118"},
		{"CHECKPOINT", "CHECKPOINT E118"},
	} {
		s := made(t, chapterSetup())
		do(t, s, table)
		tells(t, "P17.10", s, busy+"CUT 0; "+c.command+"; "+c.command+"; @1 BEGIN; CRASH; RESTART;", "3 PLAY OK", "8 CUT OK",
			"2 @3 E170", "3 TICK E170", "3 TICK E170", "4 @1 E170", "5 TICK E170", "6 @2 E170", "7 @3 E170", "9 "+c.right,
			"10 "+c.command+" E170", "11 @1 E170", "12 CRASH OK", "13 RESTART OK 0 0 0 0")
	}
}

// P17.10: so it falls by a PLAY or DRAIN whose commits the log refuses: what ended has its reply ahead of that.
func TestPlaysFall(t *testing.T) {
	setup := chapterSetup()
	setup.Batch = 1
	for _, c := range []struct{ schedule, ended, right string }{
		{"PLAY x'8080'", "", "PLAY E118"},
		{"DRAIN", "5 @2 OK stamp 5\n", "DRAIN E118"},
	} {
		s := made(t, setup)
		do(t, s, table+"CUT 0;")
		text := told(t, s, "@1 INSERT INTO t VALUES (1, 1); @1 INSERT INTO t VALUES (2, 2); @2 BEGIN; "+c.schedule+"; SYNC;")
		if !strings.Contains(text, "3 @1 OK count 1 stamp") || !strings.Contains(text, "4 @1 OK count 1 stamp") || !strings.Contains(text, "5 @2 "+pickText(c.ended == "", "E170", "OK")) {
			t.Errorf("P17.4: what ended: %s", text)
		}
		if !strings.HasSuffix(text, "6 "+c.right+"\n7 SYNC E170\n") {
			t.Errorf("P17.10: %s", text)
		}
	}
	s := made(t, setup)
	do(t, s, table+"CUT 0;")
	rs := do(t, s, "@1 INSERT INTO t VALUES (1, 1); @1 INSERT INTO t VALUES (2, 2); DRAIN;")
	want(t, "P17.10: no numbers", rs[len(rs)-1], api.Reply{Command: 5, Kind: api.CmDrain, Code: api.ErrHalt})
}

// P17.10: a want of room brings it down too; behind a restart that finds room it goes on.
func TestFallsForWantOfRoom(t *testing.T) {
	for _, command := range []string{"FLUSH", "SYNC", "CHECKPOINT"} {
		setup := chapterSetup()
		setup.Device = 60
		s := made(t, setup)
		tells(t, "P17.10: "+command, s, table+"@1 BEGIN; "+command+"; RESTART; @1 BEGIN; DRAIN;",
			"0 @1 OK stamp 2 commit", "1 DRAIN OK", "2 @1 E170", "3 "+command+" E115", "4 RESTART OK 0 0 0 0", "5 @1 OK stamp 1", "6 DRAIN OK")
	}
	setup := chapterSetup()
	setup.Device, setup.Batch = 300, 1
	s := made(t, setup)
	rs := do(t, s, table+strings.Repeat("@1 INSERT INTO t VALUES (1, 1); @1 DELETE FROM t;", 10)+"@2 BEGIN; PLAY x'20ff20ff20ff20ff20ff20ff'; SYNC;")
	want(t, "P17.10: PLAY", rs[len(rs)-2].Code, api.ErrSpace)
	want(t, "P17.10: the store", list(s.Down(), rs[len(rs)-1].Code), list(true, api.ErrDown))
}

// cutCodes are the errors with which a checkpoint falls, by the device's call that is refused: the log tells ErrHalt, all else the device's own.
func cutCodes(first, files, segments, cleaned int) []api.Errno {
	var codes []api.Errno
	add := func(n int, code api.Errno) {
		for range n {
			codes = append(codes, code)
		}
	}
	add(first, api.ErrHalt)          // the log's sync
	add(3*(files-1)+1, api.ErrPower) // the pairs' files, the directory
	add(5, api.ErrPower)             // the manifest, its renaming, the directory
	add(2, api.ErrHalt)              // the mark, its sync
	if segments > 0 {
		add(segments+1, api.ErrHalt)
	}
	if cleaned > 0 {
		add(cleaned+1, api.ErrPower)
	}
	return codes
}

// firstCalls are those of the first sync of late's checkpoint: the log turns (an end, a sync; a new segment, its head, a sync, the directory), then the frame and its sync.
const firstCalls = 8

// late is a store with a checkpoint, trimmed segments to come, and commits of which some are acknowledged.
func late(t *testing.T) *store.Store {
	t.Helper()
	setup := chapterSetup()
	setup.Segment, setup.Limit = 256, 2
	s := made(t, setup)
	do(t, s, table+"@1 INSERT INTO t VALUES (1, 1), (2, 2), (3, 3); DRAIN; CHECKPOINT; @1 UPDATE t SET v = 9 WHERE k < 3; DRAIN; CHECKPOINT; @1 UPDATE t SET v = 7 WHERE k = 3; DRAIN; SYNC; @1 INSERT INTO t VALUES (4, 4); DRAIN; SYNC; @1 UPDATE t SET v = 8 WHERE k = 4; DRAIN; SYNC; @1 INSERT INTO t VALUES (5, 5); DRAIN; SYNC; @1 DELETE FROM t WHERE k = 2; DRAIN;")
	return s
}

// P17.5, P17.10: the power is cut at every place of a checkpoint: with which error the store falls, and that nothing is answered OK ahead of its time.
func TestCheckpointCut(t *testing.T) {
	s := late(t)
	rs := do(t, s, "CHECKPOINT;")
	numbers := rs[0].Numbers
	want(t, "P17.5: upto, files, segments, cleaned", numbers, "[17 6 1 2]")
	codes := cutCodes(firstCalls, numbers[1], numbers[2], numbers[3])
	for n, right := range append(codes, api.OK) {
		s := late(t)
		rs := do(t, s, fmt.Sprintf("CUT %d; @2 BEGIN; CHECKPOINT;", n))
		if right == api.OK {
			want(t, "P17.5: the whole of it", list(rs[1].Code, rs[1].Numbers, s.Down()), list(api.OK, numbers, false))
			continue
		}
		want(t, fmt.Sprintf("P17.10: CHECKPOINT cut behind %d calls", n), rs[1:], []api.Reply{
			{Command: rs[0].Command + 1, Kind: api.CmStmt, Who: 2, Code: api.ErrDown},
			{Command: rs[0].Command + 2, Kind: api.CmCheckpoint, Code: right},
		})
		want(t, "P17.10: down", s.Down(), true)
	}
}

// P17.4, P17.9, P17.10: the power is cut at every place of the other commands that write: all calls of the device ahead of the last one that they need bring the store down; what is acknowledged is back behind a crash.
func TestCutEverywhere(t *testing.T) {
	setup := chapterSetup()
	setup.Segment, setup.Batch = 256, 2
	for command, c := range map[string]struct {
		calls int
		code  api.Errno
	}{
		"FLUSH": {7, api.ErrHalt}, // an end, its sync; a segment, its head, its sync, the directory; the frame
		"SYNC":  {8, api.ErrHalt},
		"@1 UPDATE t SET v = 7 WHERE k = 1; DRAIN":      {7, api.ErrHalt},
		"@1 UPDATE t SET v = 7 WHERE k = 1; PLAY x'80'": {7, api.ErrHalt},
		"RESTART": {6, api.ErrPower}, // two segments are synced; a segment, its head, its sync, the directory
	} {
		for calls := 0; ; calls++ {
			s := made(t, setup)
			do(t, s, table+strings.Repeat("@1 INSERT INTO t VALUES (1, 1), (2, 2); @1 DELETE FROM t; DRAIN; SYNC; ", 5)+"@1 INSERT INTO t VALUES (1, 1), (2, 2); @1 UPDATE t SET v = 2; DRAIN;")
			want(t, "two segments", len(s.Device().List()), 2)
			rs := do(t, s, fmt.Sprintf("CUT %d; @2 BEGIN; %s;", calls, command))
			own := rs[len(rs)-1]
			if own.Code == api.OK {
				want(t, "P17.10: how many calls "+command+" makes", calls, c.calls)
				break
			}
			lost := rs[len(rs)-2]
			want(t, fmt.Sprintf("P17.10: %s, cut behind %d calls", command, calls), list(own.Code, own.Numbers, s.Down()), list(c.code, []int(nil), true))
			if own.Kind != api.CmDrain {
				want(t, "P17.10: what is lost", list(lost.Kind, lost.Who, lost.Code), list(api.CmStmt, 2, api.ErrDown))
			}
			do(t, s, "CRASH; RESTART;")
			want(t, "P0.5: rows behind a crash", len(s.Rows()), 3)
		}
	}
}

// crashes tells all devices that a crash may leave of one: each directory, and of each file each beginning of what is not durable, the others keeping nothing or all.
func crashes(d *redo.Device, each func(*redo.Device)) {
	for dir := range d.Changes() + 1 {
		whole := d.Copy()
		whole.Crash(dir, many(api.MaxFiles, 1<<30)...)
		bare := d.Copy()
		bare.Crash(dir)
		least := bare.List()
		for i, f := range whole.List() {
			for keep := range f.Size - least[i].Size + 1 {
				for _, others := range []int{0, 1 << 30} {
					keeps := many(len(least), others)
					keeps[i] = keep
					c := d.Copy()
					c.Crash(dir, keeps...)
					each(c)
				}
			}
		}
	}
}

func many(n, of int) []int {
	list := make([]int, n)
	for i := range list {
		list[i] = of
	}
	return list
}

// P17.5, P0.5: a crash at every step of a checkpoint, with each possible beginning of what was not durable: the rows are those ahead of the last commit, which is not acknowledged, or those behind it; behind the frame's sync always the latter.
func TestCheckpointCrash(t *testing.T) {
	setup := chapterSetup()
	setup.Segment, setup.Limit = 256, 2
	before := late(t)
	all := fmt.Sprint(plainRows(before.Rows()))
	do(t, before, "CRASH; RESTART;")
	less := fmt.Sprint(plainRows(before.Rows()))
	if all == less {
		t.Fatalf("the last commit changes nothing")
	}
	inBatches(t, len(cutCodes(firstCalls, 6, 1, 2))+1, func(m *maker) string {
		calls := int(m.seed)
		s := late(t)
		do(t, s, fmt.Sprintf("CUT %d; CHECKPOINT;", calls))
		fault, tried := "", 0
		crashes(s.Device(), func(d *redo.Device) {
			tried++
			r, code := store.Open(setup, d)
			if code != api.OK {
				fault = fmt.Sprintf("P0.5: Open behind %d calls: %d", calls, code)
				return
			}
			if got := fmt.Sprint(plainRows(r.Rows())); got != all && (calls >= firstCalls || got != less) {
				fault = fmt.Sprintf("P0.5: rows behind %d calls: %s\nwant\n%s\nor\n%s", calls, got, less, all)
			}
			rows := fmt.Sprint(r.Rows())
			rs, _, _ := r.Do("RESTART; RESTART; CRASH; RESTART;")
			if fmt.Sprint(r.Rows()) != rows || fmt.Sprint(rs[0].Numbers) != fmt.Sprint(rs[1].Numbers) || fmt.Sprint(rs[1].Numbers) != fmt.Sprint(rs[3].Numbers) {
				fault = fmt.Sprintf("P17.9: restarts in a row: %+v", rs)
			}
		})
		if tried < 2 {
			fault = "no crashes"
		}
		return fault
	})
}

// plainRows are keys and data alone.
func plainRows(rows []api.Row) []api.Pair {
	var list []api.Pair
	for _, r := range rows {
		list = append(list, api.Pair{Key: r.Key, Data: r.Data})
	}
	return list
}

// P17.5: upto is the floor: where a transaction is at work, its begin; what is above it comes with a later checkpoint, and is not trimmed.
func TestCheckpointUpto(t *testing.T) {
	setup := roomySetup()
	setup.Segment = 256
	s := made(t, setup)
	do(t, s, table+"@1 INSERT INTO t VALUES (1, 1); DRAIN; SYNC; @2 BEGIN; DRAIN;") // stamps 2, 4; begin 5
	do(t, s, strings.Repeat("@1 UPDATE t SET v = v + 1; DRAIN; SYNC;", 8))
	tells(t, "P17.5", s, "CHECKPOINT; CHECKPOINT; @2 COMMIT; DRAIN; CHECKPOINT; CHECKPOINT; CRASH; RESTART; CHECKPOINT;",
		"31 CHECKPOINT OK 5 2 0 0", "32 CHECKPOINT OK 5 1 0 1", "33 @2 OK stamp 22 commit", "34 DRAIN OK", "35 CHECKPOINT OK 23 4 2 1", "36 CHECKPOINT OK 23 1 0 1",
		"37 CRASH OK", "38 RESTART OK 4 0 0 23", "39 CHECKPOINT OK 24 1 0 1")
	s = made(t, chapterSetup())
	tells(t, "P17.5: nothing at all", s, "CHECKPOINT; CHECKPOINT; RESTART; CHECKPOINT;", "0 CHECKPOINT OK 1 1 0 0", "1 CHECKPOINT OK 1 1 0 1", "2 RESTART OK 0 0 0 1", "3 CHECKPOINT OK 2 1 1 1")
}

// P17.5: the last timestamp of all.
func TestCheckpointAtTheEndOfTime(t *testing.T) {
	setup := chapterSetup()
	setup.Engine.Clock = api.MaxTime - 3
	s := made(t, setup)
	last := fmt.Sprint(uint64(api.MaxTime))
	tells(t, "P17.5", s, "@1 CREATE TABLE t (k INT, PRIMARY KEY (k)); DRAIN; CHECKPOINT; @1 BEGIN; DRAIN; @1 COMMIT; DRAIN; CHECKPOINT; CRASH; RESTART; CHECKPOINT;",
		"0 @1 OK stamp "+fmt.Sprint(uint64(api.MaxTime-1))+" commit", "1 DRAIN OK", "2 CHECKPOINT OK "+last+" 2 0 0", "3 @1 OK stamp "+last, "4 DRAIN OK",
		"5 @1 E61 abort", "6 DRAIN OK", "7 CHECKPOINT OK "+last+" 1 0 1", "8 CRASH OK", "9 RESTART OK 3 0 0 "+last, "10 CHECKPOINT OK "+last+" 1 1 1")
}

// P17.5: an error of Close is the reply's code, and nothing more is done: the store does not fall; but what was committed is durable.
func TestCheckpointRefused(t *testing.T) {
	setup := roomySetup()
	setup.Limit = 1
	s := made(t, setup)
	do(t, s, table+strings.Repeat("@1 INSERT INTO t VALUES (1, 1); @1 DELETE FROM t; DRAIN;", api.MaxPairs-1)+"CHECKPOINT;")
	do(t, s, "@1 INSERT INTO t VALUES (1, 1); DRAIN;")
	before := image.Files(s.Device())
	tells(t, "P17.5", s, "@2 BEGIN; CHECKPOINT; SYNC; DRAIN;", "771 CHECKPOINT E129", "772 SYNC OK", "770 @2 OK stamp 1025", "773 DRAIN OK")
	want(t, "P17.5: no file is written", image.Files(s.Device()), before)
	d := s.Device()
	d.Crash(0)
	want(t, "P17.5: what was committed is durable", len(opened(t, setup, d).Rows()), 4)
	tells(t, "P17.6: two pairs less one", s, "MERGE 0; CHECKPOINT;", "774 MERGE OK", "775 CHECKPOINT OK 1025 3 0 4")
}

// P17.5: what is in the checkpoint is out of the log, as far as whole segments go; nothing that a recovery needs.
func TestCheckpointTrims(t *testing.T) {
	setup := chapterSetup()
	setup.Segment, setup.Batch = 256, 1
	s := made(t, setup)
	do(t, s, table)
	removed := 0
	for n := range 30 {
		do(t, s, fmt.Sprintf("@1 INSERT INTO t VALUES (%d, 0); DRAIN; SYNC;", n))
		if n%7 == 6 {
			rs := do(t, s, "CHECKPOINT;")
			removed += rs[0].Numbers[2]
			first, _, _ := redo.Replay(s.Device())
			if len(first) > 5 {
				t.Errorf("P17.5: %d commits are left in the log", len(first))
			}
		}
		d := s.Device()
		d.Crash(0)
		want(t, "P0.5: rows behind a crash", plainRows(opened(t, setup, d).Rows()), plainRows(s.Rows()))
	}
	if removed < 5 {
		t.Errorf("P17.5: %d segments were trimmed", removed)
	}
}

// P17.6: MERGE: the pairs are counted from 0 on; the files come with the next checkpoint.
func TestMerge(t *testing.T) {
	setup := chapterSetup()
	setup.Limit = 1
	s := made(t, setup)
	tells(t, "P17.6", s, "MERGE 0; MERGE 9223372036854775807;", "0 MERGE E127", "1 MERGE E127")
	do(t, s, table+"@1 INSERT INTO t VALUES (1, 1); @1 INSERT INTO t VALUES (2, 2); DRAIN; CHECKPOINT;")
	before := dump(s.Device())
	tells(t, "P17.6", s, "MERGE 2; MERGE 1; MERGE 1; MERGE 0; MERGE 0;", "8 MERGE E127", "9 MERGE OK", "10 MERGE E127", "11 MERGE OK", "12 MERGE E127")
	want(t, "P17.6: the device", dump(s.Device()), before)
	tells(t, "P17.6", s, "CHECKPOINT;", "13 CHECKPOINT OK 7 2 0 4")
	rows := s.Rows()
	do(t, s, "CRASH; RESTART;")
	want(t, "P17.6: the rows", s.Rows(), rows)
}

// P17.7: CHECK tells phenomena; of a history that is too great the error alone.
func TestCheck(t *testing.T) {
	s := made(t, roomySetup())
	tells(t, "P17.7", s, "CHECK;", "0 CHECK OK")
	do(t, s, table+"@1 INSERT INTO t VALUES (1, 1), (2, 2); DRAIN;")
	do(t, s, "@1 BEGIN READ COMMITTED; @1 SELECT v FROM t WHERE k = 1; DRAIN; @2 UPDATE t SET v = 5; DRAIN; @1 SELECT v FROM t WHERE k = 2; @1 COMMIT; DRAIN;")
	tells(t, "P17.7: a skewed read", s, "CHECK;", fmt.Sprintf("13 CHECK OK %d %d %d %d", api.GSIa, api.GSIb, api.G2Item, api.G2))
	for range 4 {
		do(t, s, strings.Repeat("@1 BEGIN; @1 COMMIT;", 32)+"@2 BEGIN; @2 COMMIT; DRAIN;")
	}
	for range 4 {
		do(t, s, strings.Repeat("@1 BEGIN; @1 COMMIT;", 32)+"@2 BEGIN; @2 COMMIT; DRAIN;")
	}
	rs := do(t, s, "CHECK; RESTART; CHECK;")
	want(t, "P17.7: too many", rs[0], api.Reply{Command: rs[0].Command, Kind: api.CmCheck, Code: api.ErrBig})
	want(t, "P17.7: behind a restart", list(rs[2].Code, rs[2].Numbers), list(api.OK, []int(nil)))
}

// P17.8: CRASH: what is lost, by the numbers of the commands; the device keeps what it is told to.
func TestCrash(t *testing.T) {
	s := made(t, chapterSetup())
	do(t, s, table)
	tells(t, "P17.8", s, busy+"PLAY x'0001'; CRASH; CRASH 1, 2, 3;", "3 PLAY OK", "8 PLAY OK",
		"2 @3 E170", "3 TICK E170", "3 TICK E170", "4 @1 E170", "5 TICK E170", "6 @2 E170", "7 @3 E170", "9 CRASH OK", "10 CRASH OK")
	for _, c := range []struct {
		crash string
		size  int
	}{{"CRASH", 24}, {"CRASH 0", 24}, {"CRASH 5", 24}, {"CRASH 0, 0", 24}, {"CRASH 0, 7", 31}, {"CRASH 0, 7, 9, 9, 9, 9, 9, 9, 9, 9, 9, 9, 9, 9, 9, 9", 31}, {"CRASH 9223372036854775807, 9223372036854775807", 86}} {
		s := made(t, chapterSetup())
		do(t, s, table+"FLUSH;")
		rs := do(t, s, c.crash+";")
		want(t, "P17.8: "+c.crash, list(rs, s.Device().List()), list([]api.Reply{{Command: 3, Kind: api.CmCrash}}, []api.FileInfo{{Name: "log-000001", Size: c.size, Synced: c.size}}))
	}
}

// P17.8: of the directory's changes so many are kept as the first number says.
func TestCrashDirectory(t *testing.T) {
	for dir, right := range []string{"[]", "[data-00000001]", "[data-00000001]"} {
		s := made(t, chapterSetup())
		do(t, s, table+fmt.Sprintf("CUT 5; CHECKPOINT; CRASH %d;", dir)) // frame, sync; create, append, sync
		var names []string
		for _, f := range image.Files(s.Device()) {
			names = append(names, f.Name)
		}
		want(t, fmt.Sprintf("P17.8: CRASH %d", dir), fmt.Sprint(names), right)
	}
}

// P17.9: RESTART of a store that is up: without a crash: what is on the device stays, what is in the log's buffer is lost.
func TestRestartUp(t *testing.T) {
	s := made(t, chapterSetup())
	do(t, s, table)
	tells(t, "P17.9: the buffer is lost", s, busy+"RESTART; RESTART;", "3 PLAY OK",
		"2 @3 E170", "3 TICK E170", "3 TICK E170", "4 @1 E170", "5 TICK E170", "6 @2 E170", "7 @3 E170", "8 RESTART OK 0 0 0 0", "9 RESTART OK 0 0 0 0")
	s = made(t, chapterSetup())
	tells(t, "P17.9: what was flushed is not", s, table+"FLUSH; RESTART; RESTART; DRAIN; @1 SELECT * FROM t; @2 COMMIT; DRAIN;",
		"0 @1 OK stamp 2 commit", "1 DRAIN OK", "2 FLUSH OK", "3 RESTART OK 3 1 0 2", "4 RESTART OK 3 1 0 2", "5 DRAIN OK", "7 @2 E102", "6 @1 OK stamp 4 commit", "| 'k', 'v'", "8 DRAIN OK")
	want(t, "P17.9: it is durable now", func() int { d := s.Device(); d.Crash(0); return len(opened(t, chapterSetup(), d).Rows()) }(), 3)
}

// P17.9: the clock is the greater of the setup's and the recovered one.
func TestRestartClock(t *testing.T) {
	setup := chapterSetup()
	setup.Engine.Clock = 100
	s := made(t, setup)
	tells(t, "P17.9", s, "RESTART; "+table+"SYNC; RESTART; @1 BEGIN; DRAIN;",
		"0 RESTART OK 0 0 0 100", "1 @1 OK stamp 102 commit", "2 DRAIN OK", "3 SYNC OK 102", "4 RESTART OK 3 1 0 102", "5 @1 OK stamp 103", "6 DRAIN OK")
	low := made(t, chapterSetup())
	do(t, low, table+"SYNC;")
	s = opened(t, setup, low.Device())
	tells(t, "P17.9: the setup's is greater", s, "RESTART; @1 BEGIN; DRAIN;", "0 RESTART OK 3 1 0 100", "1 @1 OK stamp 101", "2 DRAIN OK")
}

// P17.9: the four numbers: rows, commits played above the checkpoint, the log's tail, the clock.
func TestRestartNumbers(t *testing.T) {
	for _, c := range []struct {
		less, keep int // of the frame that is not durable; all but so many bytes, or so many
		right      string
	}{{-1, 0, "4 0 0 5"}, {-1, 1, "4 0 1 5"}, {-1, 23, "4 0 1 5"}, {-1, 24, "4 0 1 5"}, {1, 0, "4 0 1 5"}, {0, 0, "5 1 0 6"}} {
		s := made(t, chapterSetup())
		do(t, s, table+"@1 INSERT INTO t VALUES (1, 1); DRAIN; CHECKPOINT; @1 BEGIN; @1 INSERT INTO t VALUES (2, 2); @1 COMMIT; DRAIN; FLUSH;")
		keep := c.keep
		if log := s.Device().List()[1]; c.less >= 0 {
			keep = log.Size - log.Synced - c.less
		}
		tells(t, "P17.9", s, fmt.Sprintf("CRASH 0, 0, %d; RESTART;", keep), "10 CRASH OK", "11 RESTART OK "+c.right)
	}
}

// P17.9: the first that refuses gives the code, and the store stays down; what is lost is told ahead of it.
func TestRestartRefused(t *testing.T) {
	s := made(t, chapterSetup())
	do(t, s, table+"SYNC;")
	tells(t, "P17.9", s, "@1 BEGIN; CUT 0; RESTART; RESTART; @1 COMMIT; CUT 5; CRASH; RESTART;",
		"4 CUT OK", "3 @1 E170", "5 RESTART E117", "6 RESTART E117", "7 @1 E170", "8 CUT E170", "9 CRASH OK", "10 RESTART OK 3 1 0 2")
	s = late(t)
	do(t, s, fmt.Sprintf("CUT %d; CHECKPOINT;", firstCalls+4))
	d := s.Device()
	d.Crash(9, many(20, 999)...)
	before := plainRows(opened(t, chapterSetup(), d).Rows())
	calls := 0
	for ; ; calls++ {
		cut := d.Copy()
		cut.Cut(calls)
		s, code := store.Open(chapterSetup(), cut)
		if code == api.OK {
			want(t, "P17.9: the rows", plainRows(s.Rows()), before)
			break
		}
		want(t, fmt.Sprintf("P17.9: power for %d calls", calls), code, api.ErrPower)
	}
	want(t, "P17.9: calls of a restart: Clean removes two files, SyncDir; Open: Sync of two segments, Create, Append, Sync, SyncDir", calls, 3+2+4)
}

// P17.9: what the log holds above the checkpoint is in the image again: the next checkpoint has it, behind any number of restarts.
func TestRestartAbsorbs(t *testing.T) {
	setup := chapterSetup()
	s := made(t, setup)
	do(t, s, table+"@1 INSERT INTO t VALUES (1, 1); DRAIN; CHECKPOINT; @1 INSERT INTO t VALUES (2, 2); @1 DELETE FROM t WHERE k = 1; DRAIN; SYNC; RESTART; CRASH; RESTART; CHECKPOINT;")
	rows, m, code := image.Load(image.Files(s.Device()))
	want(t, "P17.9: the checkpoint", list(rows, m.Upto, code), list(s.Rows(), 9, api.OK))
	want(t, "P17.9: the rows", len(rows), 4)
	s = made(t, setup)
	do(t, s, table+"SYNC; CRASH; RESTART; @1 INSERT INTO t VALUES (1, 1); DRAIN;")
	tells(t, "P17.5: what the store found at its start counts for the trimming", s, "CHECKPOINT;", "7 CHECKPOINT OK 5 2 1 0")
}

// P17.4: CUT: so many calls more; the last one holds.
func TestCut(t *testing.T) {
	s := made(t, chapterSetup())
	do(t, s, table)
	tells(t, "P17.4", s, "CUT 0; CUT 3; SYNC; SYNC; SYNC; CRASH; RESTART; SYNC;", "2 CUT OK", "3 CUT OK", "4 SYNC OK 2", "5 SYNC OK", "6 SYNC E118", "7 CRASH OK", "8 RESTART OK 3 1 0 2", "9 SYNC OK")
	tells(t, "P17.4", s, "CUT 9223372036854775807; SYNC; FLUSH;", "10 CUT OK", "11 SYNC OK", "12 FLUSH OK")
}
