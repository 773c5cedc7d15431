package store_test

import (
	"testing"

	"strata/api"
	"strata/store"
)

// The ten examples of the chapter, to the letter: scripts, the text that Run answers, and its error.
func TestExamples(t *testing.T) {
	for i, c := range []struct {
		scripts []string
		right   string
		code    api.Errno
	}{
		{[]string{`@1 CREATE TABLE t (id INT, name TEXT, PRIMARY KEY (id));
@1 INSERT INTO t VALUES (2, 'two'), (1, 'one');
@1 SELECT name, id * 10 FROM t WHERE id < 9 ORDER BY id DESC;
@1 SELECT COUNT(*), MIN(name) FROM t WHERE id > 5;
DRAIN;`}, `0 @1 OK stamp 2 commit
1 @1 OK count 2 stamp 4 commit
2 @1 OK count 2 stamp 6 commit
| 'name', 'id * 10'
  'two', 20
  'one', 10
3 @1 OK count 1 stamp 8 commit
| 'COUNT(*)', 'MIN(name)'
  0, NULL
4 DRAIN OK 271
`, api.OK},
		{[]string{`@1 CREATE TABLE t (k INT, v INT, PRIMARY KEY (k)); @1 INSERT INTO t VALUES (1, 10); DRAIN;
@1 BEGIN; DRAIN; @2 BEGIN; DRAIN;
@1 UPDATE t SET v = v + 1; DRAIN; @2 UPDATE t SET v = v + 5; DRAIN;
@1 COMMIT; DRAIN; @2 SELECT v FROM t; DRAIN;`}, `0 @1 OK stamp 2 commit
1 @1 OK count 1 stamp 4 commit
2 DRAIN OK 157
3 @1 OK stamp 5
4 DRAIN OK 5
5 @2 OK stamp 6
6 DRAIN OK 5
7 @1 OK count 1
8 DRAIN OK 35
9 @2 E71 abort
10 DRAIN OK 51
11 @1 OK stamp 7 commit
12 DRAIN OK 31
13 @2 OK count 1 stamp 9 commit
| 'v'
  11
14 DRAIN OK 49
`, api.OK},
		{[]string{`@1 CREATE TABLE t (k INT, v INT, PRIMARY KEY (k)); @1 INSERT INTO t VALUES (1, 10); DRAIN;
@1 BEGIN SNAPSHOT; @2 BEGIN READ COMMITTED; DRAIN;
@3 UPDATE t SET v = 11; DRAIN;
@1 SELECT v FROM t; DRAIN; @2 SELECT v FROM t; DRAIN;`}, `0 @1 OK stamp 2 commit
1 @1 OK count 1 stamp 4 commit
2 DRAIN OK 157
3 @1 OK stamp 5
4 @2 OK stamp 6
5 DRAIN OK 10
6 @3 OK count 1 stamp 8 commit
7 DRAIN OK 71
8 @1 OK count 1
| 'v'
  10
9 DRAIN OK 16
10 @2 OK count 1
| 'v'
  11
11 DRAIN OK 19
`, api.OK},
		{[]string{`@1 CREATE TABLE duty (who TEXT, yes BOOL, PRIMARY KEY (who)); @1 INSERT INTO duty VALUES ('ann', TRUE), ('bob', TRUE); DRAIN;
@1 BEGIN SNAPSHOT; @2 BEGIN SNAPSHOT; DRAIN;
@1 SELECT COUNT(*) FROM duty WHERE yes; @2 SELECT COUNT(*) FROM duty WHERE yes; DRAIN;
@1 UPDATE duty SET yes = FALSE WHERE who = 'ann'; @2 UPDATE duty SET yes = FALSE WHERE who = 'bob'; DRAIN;
@1 COMMIT; DRAIN; @2 COMMIT; DRAIN;
@3 UPDATE duty SET yes = TRUE; DRAIN;
@1 BEGIN SERIALIZABLE; @2 BEGIN SERIALIZABLE; DRAIN;
@1 SELECT COUNT(*) FROM duty WHERE yes; @2 SELECT COUNT(*) FROM duty WHERE yes; DRAIN;
@1 UPDATE duty SET yes = FALSE WHERE who = 'ann'; @2 UPDATE duty SET yes = FALSE WHERE who = 'bob'; DRAIN;
@1 COMMIT; DRAIN; @2 COMMIT; DRAIN; CHECK;`}, `0 @1 OK stamp 2 commit
1 @1 OK count 2 stamp 4 commit
2 DRAIN OK 186
3 @1 OK stamp 5
4 @2 OK stamp 6
5 DRAIN OK 10
6 @1 OK count 1
| 'COUNT(*)'
  2
7 @2 OK count 1
| 'COUNT(*)'
  2
8 DRAIN OK 38
10 @2 OK count 1
9 @1 OK count 1
11 DRAIN OK 88
12 @1 OK stamp 7 commit
13 DRAIN OK 31
14 @2 OK stamp 8 commit
15 DRAIN OK 31
16 @3 OK count 2 stamp 10 commit
17 DRAIN OK 132
18 @1 OK stamp 11
19 @2 OK stamp 12
20 DRAIN OK 10
21 @1 OK count 1
| 'COUNT(*)'
  2
22 @2 OK count 1
| 'COUNT(*)'
  2
23 DRAIN OK 62
25 @2 OK count 1
24 @1 OK count 1
26 DRAIN OK 94
27 @1 OK stamp 13 commit
28 DRAIN OK 70
29 @2 E90 abort
30 DRAIN OK 35
31 CHECK OK 7 8
`, api.OK},
		{[]string{`@1 CREATE TABLE t (k INT, PRIMARY KEY (k)); DRAIN;
@1 BEGIN REPEATABLE READ; @2 BEGIN SERIALIZABLE; DRAIN;
@1 SELECT * FROM t WHERE k > 3; @2 SELECT * FROM t WHERE k > 3; DRAIN;
@3 INSERT INTO t VALUES (7); DRAIN;
@1 COMMIT; @2 COMMIT; DRAIN;`}, `0 @1 OK stamp 2 commit
1 DRAIN OK 101
2 @1 OK stamp 3
3 @2 OK stamp 4
4 DRAIN OK 10
5 @1 OK
| 'k'
6 @2 OK
| 'k'
7 DRAIN OK 22
8 @3 OK count 1 stamp 6 commit
9 DRAIN OK 56
10 @1 OK stamp 7 commit
11 @2 E91 abort
12 DRAIN OK 69
`, api.OK},
		{[]string{`@1 CREATE TABLE t (k INT, v INT, PRIMARY KEY (k)); @1 INSERT INTO t VALUES (1, 10); DRAIN;
@1 BEGIN; @1 UPDATE t SET v = 11; DRAIN;
@1 COMMIT; PLAY x'2004';
@2 BEGIN; @2 SELECT v FROM t; @2 COMMIT; PLAY x'21c8';
PLAY x'2001'; DRAIN;`}, `0 @1 OK stamp 2 commit
1 @1 OK count 1 stamp 4 commit
2 DRAIN OK 157
3 @1 OK stamp 5
4 @1 OK count 1
5 DRAIN OK 40
7 PLAY OK 5
8 @2 OK stamp 7
9 @2 OK count 1
| 'v'
  11
11 PLAY OK 201
12 PLAY OK 2
6 @1 OK stamp 6 commit
10 @2 OK stamp 8 commit
13 DRAIN OK 51
`, api.OK},
		{[]string{`@1 CREATE TABLE t (k INT, v INT, PRIMARY KEY (k)); @1 INSERT INTO t VALUES (1, 0); @1 UPDATE t SET v = 1; @1 UPDATE t SET v = 2; @1 UPDATE t SET v = 3; DRAIN;
@2 BEGIN; DRAIN; @1 UPDATE t SET v = 4; DRAIN;
TICK 4; DRAIN; @2 SELECT v FROM t; @2 COMMIT; DRAIN; TICK 4; DRAIN;`}, `0 @1 OK stamp 2 commit
1 @1 OK count 1 stamp 4 commit
2 @1 OK count 1 stamp 6 commit
3 @1 OK count 1 stamp 8 commit
4 @1 OK count 1 stamp 10 commit
5 DRAIN OK 382
6 @2 OK stamp 11
7 DRAIN OK 5
8 @1 OK count 1 stamp 13 commit
9 DRAIN OK 83
10 TICK OK 3
11 DRAIN OK 175
12 @2 OK count 1
| 'v'
  3
13 @2 OK stamp 18 commit
14 DRAIN OK 43
15 TICK OK 1
16 DRAIN OK 124
`, api.OK},
		{[]string{`@1 CREATE TABLE t (k INT, v INT, PRIMARY KEY (k)); @1 INSERT INTO t VALUES (1, 1); DRAIN; SYNC;
@1 INSERT INTO t VALUES (2, 2); DRAIN; FLUSH; CRASH 0, 30; RESTART;
@1 SELECT * FROM t; DRAIN;`}, `0 @1 OK stamp 2 commit
1 @1 OK count 1 stamp 4 commit
2 DRAIN OK 157
3 SYNC OK 2 4
4 @1 OK count 1 stamp 6 commit
5 DRAIN OK 57
6 FLUSH OK
7 CRASH OK
8 RESTART OK 4 2 1 4
9 @1 OK count 1 stamp 6 commit
| 'k', 'v'
  1, 1
10 DRAIN OK 46
`, api.OK},
		{[]string{`@1 CREATE TABLE t (k INT, v INT, PRIMARY KEY (k)); @1 INSERT INTO t VALUES (1, 1), (2, 2); DRAIN; CHECKPOINT;
@1 DELETE FROM t WHERE k = 1; @1 INSERT INTO t VALUES (3, 3); DRAIN; SYNC;
@1 INSERT INTO t VALUES (4, 4); DRAIN; CRASH; @1 BEGIN; RESTART;
@1 SELECT k FROM t; DRAIN;`}, `0 @1 OK stamp 2 commit
1 @1 OK count 2 stamp 4 commit
2 DRAIN OK 175
3 CHECKPOINT OK 5 2 0 0
4 @1 OK count 1 stamp 6 commit
5 @1 OK count 1 stamp 8 commit
6 DRAIN OK 115
7 SYNC OK 6 8
8 @1 OK count 1 stamp 10 commit
9 DRAIN OK 60
10 CRASH OK
11 @1 E170
12 RESTART OK 5 2 0 8
13 @1 OK count 2 stamp 10 commit
| 'k'
  2
  3
14 DRAIN OK 50
`, api.OK},
		{[]string{`@1 BEGIN; DRAIN;`, `@1 INSERT INTO t VALUES (1, 'x'); @1 SELECT FROM t;`, `DRAIN;`}, `0 @1 OK stamp 1
1 DRAIN OK 5
? E155 at 44
`, api.ErrSyntax},
	} {
		got, code := store.Run(chapterSetup(), c.scripts...)
		if got != c.right || code != c.code {
			t.Errorf("example %d: got\n%s%d\nwant\n%s%d", i+1, got, code, c.right, c.code)
		}
	}
}
