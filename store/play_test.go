package store_test

import (
	"fmt"
	"slices"
	"strings"
	"testing"

	"strata/api"
	"strata/redo"
	"strata/store"
	"strata/tongue"
)

const table = "@1 CREATE TABLE t (k INT, v INT, PRIMARY KEY (k)); DRAIN; "

// P17.3: of a script that Parse refuses nothing is played, and its commands are not counted.
func TestDoRefused(t *testing.T) {
	s := made(t, chapterSetup())
	do(t, s, "@1 BEGIN;")
	for _, script := range []string{"DRAIN; oh", "DRAIN; DRAIN", "@1 COMMIT; 'a", "DRAIN;;", strings.Repeat(" ", api.MaxScript+1), strings.Repeat("DRAIN;", api.MaxCommands+1), "\xff"} {
		_, right, place := tongue.Parse(script)
		if right == api.OK {
			t.Fatalf("%q is a script", script)
		}
		rs, code, at := s.Do(script)
		want(t, "P17.3: "+script[:min(len(script), 20)], list(rs, code, at), list([]api.Reply(nil), right, place))
	}
	rs, code, at := s.Do("")
	want(t, "P17.3: no commands", list(len(rs), code, at), list(0, api.OK, 0))
	tells(t, "P17.3", s, "FLUSH; DRAIN;", "1 FLUSH OK", "0 @1 OK stamp 1", "2 DRAIN OK")
	rs, code, at = s.Do(strings.Repeat("FLUSH;", api.MaxCommands))
	want(t, "P17.3: as many commands as may be", list(len(rs), code, at, rs[999].Command), list(1000, api.OK, 0, 1002))
}

// P17.4: what is no command is answered by ErrTree, also while the store is down; it counts, and does nothing.
func TestPlayNoCommands(t *testing.T) {
	select1 := stmt(t, "@1 SELECT * FROM t;")
	wrong := []api.Command{
		{}, {Kind: -1}, {Kind: 13}, {Kind: 1 << 40}, {Kind: api.CmStmt, Who: 7}, {Kind: api.CmStmt, Who: -1, Stmt: select1.Stmt},
		{Kind: api.CmDrain, Who: 2}, {Kind: api.CmDrain, Num: 1}, {Kind: api.CmDrain, Bytes: "x"}, {Kind: api.CmDrain, Keep: []int{1}}, {Kind: api.CmDrain, Stmt: select1.Stmt},
		{Kind: api.CmTick, Num: -1}, {Kind: api.CmMerge, Num: -1}, {Kind: api.CmCut, Num: -1}, {Kind: api.CmCrash, Keep: []int{-1}}, {Kind: api.CmCrash, Keep: make([]int, api.MaxList+1)},
		{Kind: api.CmPlay, Bytes: strings.Repeat("\xa0", api.MaxText+1)}, {Kind: api.CmRestart, Num: 1}, {Kind: api.CmSync, Who: 1},
	}
	s := made(t, chapterSetup())
	do(t, s, "@1 BEGIN;")
	for _, down := range []bool{false, true} {
		if down {
			do(t, s, "CRASH;")
		}
		before := dump(s.Device())
		rs, code := s.Play(wrong...)
		first := rs[0].Command
		for i, c := range wrong {
			right := api.Reply{Command: first + i, Kind: c.Kind, Code: api.ErrTree}
			if c.Kind == api.CmStmt {
				right.Who = c.Who
			}
			want(t, fmt.Sprintf("P17.4: %+v", c), list(rs[i], code), list(right, api.OK))
		}
		want(t, "P17.4: the number of replies", len(rs), len(wrong))
		want(t, "P17.4: nothing happens", list(s.Down(), dump(s.Device())), list(down, before))
	}
}

// P17.4: while the store is down only CRASH and RESTART are played.
func TestPlayDown(t *testing.T) {
	s := made(t, chapterSetup())
	do(t, s, "CRASH;")
	before := wholeDump(s.Device())
	tells(t, "P17.4", s, "@1 BEGIN; @9 COMMIT; @0 COMMIT; PLAY x'a0'; DRAIN; TICK 1; TICK 9; FLUSH; SYNC; CHECKPOINT; MERGE 0; CUT 0; CHECK; CRASH 1;",
		"1 @1 E170", "2 @9 E170", "3 @0 E170", "4 PLAY E170", "5 DRAIN E170", "6 TICK E170", "7 TICK E170", "8 FLUSH E170", "9 SYNC E170", "10 CHECKPOINT E170", "11 MERGE E170", "12 CUT E170", "13 CHECK E170", "14 CRASH OK")
	want(t, "P17.4: the device", wholeDump(s.Device()), before)
	want(t, "P17.11: down", list(s.Down(), s.Engine() == nil, len(s.Rows())), list(true, true, 0))
	tells(t, "P17.9", s, "RESTART; DRAIN;", "15 RESTART OK 0 0 0 0", "16 DRAIN OK")
	want(t, "P17.11: up", list(s.Down(), s.Engine() == nil), list(false, false))
}

// P17.4: sessions 0, 1, the last one and one more; the collector's session is nobody's.
func TestSessions(t *testing.T) {
	for sessions := 1; sessions <= api.MaxSessions-1; sessions += 13 {
		setup := chapterSetup()
		setup.Engine.Sessions, setup.Engine.TxSlots = sessions, 32
		s := made(t, setup)
		tells(t, "P17.4", s, fmt.Sprintf("@0 BEGIN; @%d BEGIN; @%d BEGIN; @9223372036854775807 BEGIN; DRAIN; @%d COMMIT; @1 ROLLBACK; DRAIN;", sessions, sessions+1, sessions),
			"0 @0 E100", fmt.Sprintf("2 @%d E100", sessions+1), "3 @9223372036854775807 E100", fmt.Sprintf("1 @%d OK stamp 1", sessions), "4 DRAIN OK",
			map[bool]string{true: "5 @1 OK stamp 2 commit\n6 @1 E102\n7 DRAIN OK", false: fmt.Sprintf("6 @1 E102\n5 @%d OK stamp 2 commit\n7 DRAIN OK", sessions)}[sessions == 1])
		want(t, "P17.4: who", s.Engine().Open(sessions-1), false)
	}
}

// P17.4: a session of a script is one less of the engine.
func TestSessionsOfTheEngine(t *testing.T) {
	s := made(t, chapterSetup())
	do(t, s, "@2 BEGIN; DRAIN;")
	for session, right := range []bool{false, true, false, false} {
		want(t, fmt.Sprintf("P17.4: session %d of the engine", session), s.Engine().Open(session), right)
	}
}

// P17.4: a queue holds MaxQueue machines; one that is at work is among them.
func TestFullQueues(t *testing.T) {
	s := made(t, chapterSetup())
	script := strings.Repeat("@2 BEGIN; TICK 1;", api.MaxQueue)
	want(t, "P17.4: as many as may be", len(do(t, s, script)), 0)
	tells(t, "P17.4: one more", s, "@2 COMMIT; TICK 1; TICK 5; @1 BEGIN; PLAY x'01'; @2 COMMIT; PLAY x'23'; TICK 2;",
		"128 @2 E32", "129 TICK E32", "130 TICK E2", "132 PLAY OK", "133 @2 E32", "134 PLAY OK", "135 TICK E32")
	before := s.Engine().Accesses()
	tells(t, "P17.4: a tick of a PLAY that has no room is none", s, "PLAY x'404040';", "136 PLAY OK")
	want(t, "P17.4: nothing happens", s.Engine().Accesses(), before)
	rs := do(t, s, "PLAY x'814083404040'; DRAIN;")
	want(t, "P17.4: room for one each", list(rs[0].Command, rs[0].Who, rs[1].Command, rs[1].Kind), list(0, 2, 1, api.CmTick))
	ticks := slices.DeleteFunc(rs, func(r api.Reply) bool { return r.Kind != api.CmTick })
	want(t, "P17.4: how many ticks", len(ticks), api.MaxQueue+1)
	want(t, "P17.4: the last one is the PLAY's", list(ticks[api.MaxQueue].Command, ticks[api.MaxQueue].Kind, ticks[api.MaxQueue].Code), list(137, api.CmTick, api.OK))
}

// P17.4: TICK 0, 1, Buckets, Buckets + 1: its number is what was unlinked.
func TestTicks(t *testing.T) {
	s := made(t, chapterSetup())
	do(t, s, table+"@1 INSERT INTO t VALUES (1, 0); @1 UPDATE t SET v = 1; @1 UPDATE t SET v = 2; DRAIN;")
	tells(t, "P17.4", s, "TICK 0; TICK 5; TICK 9223372036854775807; TICK 4; DRAIN; TICK 4; TICK 1; DRAIN;",
		"6 TICK E2", "7 TICK E2", "8 TICK E2", "9 TICK OK 2", "10 DRAIN OK", "11 TICK OK 0", "12 TICK OK 0", "13 DRAIN OK")
	free, limbo := s.Engine().Free()
	want(t, "P17.4: what is free", list(free, limbo), list(64-4, 0))
	one := chapterSetup()
	one.Engine.Buckets = 1
	tells(t, "P17.4", made(t, one), "TICK 2; TICK 1; DRAIN;", "0 TICK E2", "1 TICK OK 0", "2 DRAIN OK")
	all := chapterSetup()
	all.Engine.Buckets = api.MaxBuckets
	tells(t, "P17.4", made(t, all), "TICK 257; TICK 256; DRAIN;", "0 TICK E2", "1 TICK OK 0", "2 DRAIN OK")
}

// P17.4: a tick whose call is refused, since somebody has given the collector's session one, has the error of that.
func TestTickRefused(t *testing.T) {
	s := made(t, chapterSetup())
	s.Engine().Start(3, api.Call{Kind: api.CallCollect, Count: 1})
	want(t, "P17.4: a tick", store.Print(do(t, s, "TICK 1; DRAIN;")...), lines("0 TICK E101", "1 DRAIN OK 1"))
	s.Engine().Run(3, 1000)
	s.Engine().Take(3)
	do(t, s, "TICK 1; PLAY x'03';")
	s.Engine().Run(3, 1000)
	s.Engine().Take(3)
	want(t, "P17.4: a tick whose answer was taken", store.Print(do(t, s, "DRAIN;")...), lines("2 TICK E3", "4 DRAIN OK 1"))
	s.Engine().Start(0, api.Call{Kind: api.CallBegin, Iso: 2})
	tells(t, "P17.4: a statement likewise", s, "@1 COMMIT; DRAIN;", "5 @1 E101", "6 DRAIN OK")
}

// P17.4: PLAY with every kind of pick: which worker makes how many steps.
func TestPicks(t *testing.T) {
	for _, c := range []struct {
		bytes string
		steps int
		ended []int // commands: 0 @1 (5 steps), 1 @1 (22), 2 @2 (5), 3 TICK (80)
	}{
		{"", 0, nil},
		{"00", 1, nil},
		{"0000000000", 5, []int{0}},
		{"2003", 4, nil},
		{"2004", 5, []int{0}},
		{"20ff", 27, []int{0, 1}},
		{"20", 0, nil},
		{"2104", 5, []int{2}},
		{"0406051f", 0, nil},
		{"24ff3fff9f85", 0, nil},
		{"80", 5, []int{0}},
		{"8080", 27, []int{0, 1}},
		{"808080", 27, []int{0, 1}},
		{"81", 5, []int{2}},
		{"0080", 5, []int{0}},
		{"60", 3, nil},
		{"63", 12, nil},
		{"64", 15, []int{0, 2}},
		{"66", 19, []int{0, 2}},
		{"a1ffe0c0", 0, nil},
		{"8181a2", 5, []int{2}},
		{"23ff", 80, []int{3}},
		{"a0", 112, []int{0, 2, 1, 3}},
		{"a000a060", 112, []int{0, 2, 1, 3}},
		{"8380", 85, []int{3, 0}},
	} {
		s := made(t, chapterSetup())
		do(t, s, "@1 BEGIN; @1 ROLLBACK; @2 BEGIN; TICK 4;")
		rs := do(t, s, "PLAY x'"+c.bytes+"';")
		var ended []int
		for _, r := range rs[:len(rs)-1] {
			ended = append(ended, r.Command)
		}
		own := rs[len(rs)-1]
		want(t, "P17.4: PLAY "+c.bytes, list(own.Command, own.Kind, own.Code, own.Numbers, ended), list(4, api.CmPlay, api.OK, []int{c.steps}, c.ended))
	}
}

// P17.4: the ticks of a PLAY have its number and the kind CmTick; those that are not done are so later.
func TestPickTicks(t *testing.T) {
	s := made(t, chapterSetup())
	tells(t, "P17.4", s, "PLAY x'415f40'; PLAY x'8340'; DRAIN;", "0 PLAY OK", "0 TICK OK 0", "1 PLAY OK", "0 TICK OK 0", "0 TICK OK 0", "1 TICK OK 0", "2 DRAIN OK")
	s = made(t, chapterSetup())
	rs := do(t, s, "PLAY x'40a0'; TICK 1; DRAIN;")
	want(t, "P17.4: as TICK 1 does", list(rs[1].Numbers, rs[3].Numbers), "[[20] [20]]")
}

// longQueues gives sessions 1 and 2 more than so many steps to make.
func longQueues(t *testing.T) *store.Store {
	t.Helper()
	setup := chapterSetup()
	setup.Engine.Slots = 300
	s := made(t, setup)
	for k := range 4 {
		var rows []string
		for i := range 50 {
			rows = append(rows, fmt.Sprintf("(%d, 0)", 50*k+i))
		}
		do(t, s, map[bool]string{true: table}[k == 0]+"@1 INSERT INTO t VALUES "+strings.Join(rows, ", ")+"; DRAIN;")
	}
	do(t, s, strings.Repeat("@1 SELECT COUNT(*) FROM t; @2 SELECT COUNT(*) FROM t;", 40))
	return s
}

// P17.4: MaxPlay used up, with a step due and with none due.
func TestBudget(t *testing.T) {
	all := strings.Repeat("20ff", 78) + "201f" // 78 * 256 + 32
	for _, c := range []struct {
		bytes string
		right string
	}{
		{all[2:4], "PLAY OK 0"},
		{all, "PLAY OK 20000"},
		{all + "00", "PLAY E34 20000"},
		{all + "2003", "PLAY E34 20000"},
		{all + "80", "PLAY E34 20000"},
		{all + "60", "PLAY E34 20000"},
		{all + "a0", "PLAY E34 20000"},
		{all + "0203ff4282", "PLAY OK 20000"}, // worker 2 has nothing to do; worker 3 gets something behind that
		{all + "4003", "PLAY E34 20000"},
		{all + "0340", "PLAY OK 20000"},
		{strings.Repeat("21ff20ff", 39) + "201e", "PLAY OK 19999"},
		{strings.Repeat("21ff20ff", 39) + "201e01", "PLAY OK 20000"},
		{"a0", "PLAY E34 20000"},
	} {
		s := longQueues(t)
		before := s.Engine().Accesses()
		rs := do(t, s, "PLAY x'"+c.bytes+"';")
		got := strings.SplitN(strings.TrimSpace(store.Print(rs[len(rs)-1])), " ", 2)[1]
		want(t, "P17.4: PLAY "+c.bytes[max(0, len(c.bytes)-20):], got, c.right)
		if n := s.Engine().Accesses() - before; c.right != "PLAY OK 0" && n != 20000 && n != 19999 {
			t.Errorf("P17.4: PLAY %s makes %d accesses", c.bytes, n)
		}
	}
}

// P17.4: where the play ends, what is due behind it is not done, and a tick behind it is not handed in; another DRAIN goes on.
func TestBudgetEnds(t *testing.T) {
	s := longQueues(t)
	rs := do(t, s, "PLAY x'a040'; CRASH;")
	for _, r := range rs {
		if r.Kind == api.CmTick {
			t.Errorf("P17.4: a tick behind the end of the play: %+v", r)
		}
	}
	s = longQueues(t)
	steps, ended := 0, 0
	for range 10 {
		rs = do(t, s, "DRAIN;")
		ended += len(rs) - 1
		own := rs[len(rs)-1]
		steps += own.Numbers[0]
		if own.Code == api.OK {
			break
		}
		want(t, "P17.4: DRAIN", list(own.Code, own.Numbers), list(api.ErrBudget, []int{20000}))
	}
	want(t, "P17.4: all are done in the end", list(ended, steps > 40000), list(80, true))
}

// P17.4: the replies of what ended in one play stand in the order in which it ended, ahead of the play's own; each is told once.
func TestOrderOfReplies(t *testing.T) {
	s := made(t, chapterSetup())
	tells(t, "P17.4", s, "@1 BEGIN; @2 BEGIN; TICK 1; @3 COMMIT; PLAY x'818380'; FLUSH; @3 COMMIT; DRAIN; DRAIN;",
		"1 @2 OK stamp 1", "2 TICK OK 0", "0 @1 OK stamp 3", "4 PLAY OK", "5 FLUSH OK", "3 @3 E102", "6 @3 E102", "7 DRAIN OK", "8 DRAIN OK")
	rs, code := s.Play()
	want(t, "P17.4: no commands", list(len(rs), code), list(0, api.OK))
}

// P17.4: a statement's reply has its result, whole, and its code.
func TestStatementReplies(t *testing.T) {
	s := made(t, chapterSetup())
	rs := do(t, s, table+"@1 INSERT INTO t VALUES (1, 2); @1 SELECT v AS it, k FROM t; @1 SELECT w FROM t; @1 INSERT INTO t VALUES (1, 2); DRAIN;")
	want(t, "P17.4: the replies", rs[2:], []api.Reply{
		{Command: 2, Kind: api.CmStmt, Who: 1, Result: api.Result{Count: 1, Stamp: 4, End: api.EndCommit}},
		{Command: 3, Kind: api.CmStmt, Who: 1, Result: api.Result{Names: []string{"it", "k"}, Rows: [][]api.Value{{{Kind: api.KInt, Int: 2}, {Kind: api.KInt, Int: 1}}}, Count: 1, Stamp: 6, End: api.EndCommit}},
		{Command: 4, Kind: api.CmStmt, Who: 1, Code: api.ErrColumn, Result: api.Result{Code: api.ErrColumn, End: api.EndAbort}},
		{Command: 5, Kind: api.CmStmt, Who: 1, Code: api.ErrDuplicate, Result: api.Result{Code: api.ErrDuplicate, End: api.EndAbort}},
		rs[len(rs)-1],
	})
}

// P17.4: behind each play the engine's commits are in the log, in its order, and in the image: the frames on the device tell the first, the checkpoint's files the second.
func TestCommitsAreLogged(t *testing.T) {
	for batch := 1; batch <= 4; batch++ {
		setup := chapterSetup()
		setup.Batch = batch
		s := made(t, setup)
		do(t, s, table)
		for n := 2; n < 12; n++ {
			do(t, s, fmt.Sprintf("@%d INSERT INTO t VALUES (%d, 0);", 1+n%3, n)+pickText(n%2 == 0, "DRAIN;", fmt.Sprintf("PLAY x'%02x';", 128+n%3)))
			logged, _, _ := redo.Replay(s.Device())
			want(t, fmt.Sprintf("P17.4: %d commits, frames of %d: on the device", n, batch), len(logged), (n-1)/batch*batch)
		}
		do(t, s, "FLUSH;")
		logged, _, _ := redo.Replay(s.Device())
		var commits []api.Commit
		for i, x := range logged {
			want(t, "P17.4: its number", x.Lsn, i+1)
			commits = append(commits, x.Commit)
		}
		want(t, "P17.4: the log", commits, s.Engine().Commits(0))
	}
}

func pickText(is bool, a, b string) string {
	if is {
		return a
	}
	return b
}

// P17.4: the order is that in which they were decided, not that of their stamps: a transaction draws its end ahead of another one, and is decided behind it.
func TestCommitsInTheEnginesOrder(t *testing.T) {
	s := made(t, chapterSetup())
	do(t, s, table+"@1 INSERT INTO t VALUES (1, 0), (2, 0); DRAIN; @1 BEGIN; @1 UPDATE t SET v = 1 WHERE k = 1; @2 BEGIN; @2 UPDATE t SET v = 1 WHERE k = 2; DRAIN; @1 COMMIT; PLAY x'2004'; @2 COMMIT; PLAY x'81'; DRAIN; FLUSH;")
	logged, _, _ := redo.Replay(s.Device())
	want(t, "P17.4: four commits", len(logged), 4)
	if a, b := logged[2].Commit.Stamp, logged[3].Commit.Stamp; a <= b {
		t.Errorf("P17.4: the stamps are in their order: %d, %d", a, b)
	}
	tells(t, "P17.4", s, "SYNC;", fmt.Sprintf("15 SYNC OK 2 4 %d %d", logged[2].Commit.Stamp, logged[3].Commit.Stamp))
	do(t, s, "CRASH; RESTART;")
	rs := do(t, s, "@1 SELECT SUM(v) FROM t; DRAIN;")
	want(t, "P0.5: both are back", rs[0].Result.Rows, "[[{Kind:2 Int:2 Text:}]]")
}

// P17.4: a commit that the engine has logged by hand is taken behind the next play, and not ahead of it.
func TestCommitsByHand(t *testing.T) {
	s := made(t, chapterSetup())
	s.Engine().Calls(0, api.Call{Kind: api.CallBegin, Iso: 2}, api.Call{Kind: api.CallInsert, Key: "a", Data: "b"}, api.Call{Kind: api.CallCommit})
	tells(t, "P17.4", s, "SYNC; PLAY x''; SYNC; SYNC;", "0 SYNC OK", "1 PLAY OK", "2 SYNC OK 2", "3 SYNC OK")
}

// P17.4: SYNC tells each stamp once, whatever was flushed ahead of it; what it tells survives every crash.
func TestSyncs(t *testing.T) {
	s := made(t, chapterSetup())
	tells(t, "P17.4", s, "SYNC; FLUSH; "+table+"FLUSH; @1 INSERT INTO t VALUES (1, 1); DRAIN; SYNC; SYNC; @1 SELECT * FROM t; DRAIN; SYNC; @1 DELETE FROM t; @1 BEGIN; DRAIN; CHECKPOINT; SYNC; CRASH; RESTART; SYNC;",
		"0 SYNC OK", "1 FLUSH OK", "2 @1 OK stamp 2 commit", "3 DRAIN OK", "4 FLUSH OK", "5 @1 OK count 1 stamp 4 commit", "6 DRAIN OK", "7 SYNC OK 2 4", "8 SYNC OK",
		"9 @1 OK count 1 stamp 6 commit", "| 'k', 'v'", "  1, 1", "10 DRAIN OK", "11 SYNC OK",
		"12 @1 OK count 1 stamp 8 commit", "13 @1 OK stamp 9", "14 DRAIN OK", "15 CHECKPOINT OK 9 3 0 0", "16 SYNC OK", "17 CRASH OK", "18 RESTART OK 3 0 0 9", "19 SYNC OK")
}
