package tongue_test

import (
	"math"
	"slices"
	"testing"

	"strata/api"
	"strata/tongue"
)

// P15.3: what each command gives, and how it is printed.
func TestCommands(t *testing.T) {
	for word, kind := range map[string]int{"DRAIN": api.CmDrain, "FLUSH": api.CmFlush, "SYNC": api.CmSync, "CHECKPOINT": api.CmCheckpoint, "RESTART": api.CmRestart, "CHECK": api.CmCheck} {
		gives(t, word+";", word+";", api.Command{Kind: kind})
	}
	for word, kind := range map[string]int{"TICK": api.CmTick, "MERGE": api.CmMerge, "CUT": api.CmCut} {
		gives(t, word+" 0;", word+" 0;", api.Command{Kind: kind})
		gives(t, word+" 007;", word+" 7;", api.Command{Kind: kind, Num: 7})
		gives(t, word+"/**/9223372036854775807;", word+" 9223372036854775807;", api.Command{Kind: kind, Num: math.MaxInt})
	}
	gives(t, "play 'aB''';", "PLAY x'614227';", api.Command{Kind: api.CmPlay, Bytes: "aB'"})
	gives(t, "play '';", "PLAY x'';", api.Command{Kind: api.CmPlay})
	gives(t, "PLAY X'00FFa0';", "PLAY x'00ffa0';", api.Command{Kind: api.CmPlay, Bytes: "\x00\xff\xa0"})
	gives(t, "crash;", "CRASH;", api.Command{Kind: api.CmCrash})
	gives(t, "crash 0;", "CRASH 0;", api.Command{Kind: api.CmCrash, Keep: []int{0}})
	gives(t, "crash 5,00,9223372036854775807,5;", "CRASH 5, 0, 9223372036854775807, 5;", api.Command{Kind: api.CmCrash, Keep: []int{5, 0, math.MaxInt, 5}})
	gives(t, "@0 commit;", "@0 COMMIT;", api.Command{Kind: api.CmStmt, Stmt: api.Stmt{Kind: api.StCommit}})
	gives(t, "@ 9223372036854775807 rollback;", "@9223372036854775807 ROLLBACK;", api.Command{Kind: api.CmStmt, Who: math.MaxInt, Stmt: api.Stmt{Kind: api.StRollback}})
}

// P15.3: what each statement gives, and how it is printed.
func TestStatements(t *testing.T) {
	cols := []api.ColDef{{Name: "a", Type: api.KInt, NotNull: true}, {Name: "B", Type: api.KText}, {Name: "c", Type: api.KBool, NotNull: true}, {Name: "a", Type: api.KBool}}
	gives(t, "@1 create table T(a int not null,\"B\" TEXT,c Bool NOT NULL, a bool,primary key(c,zz,c));", "@1 CREATE TABLE t (a INT NOT NULL, \"B\" TEXT, c BOOL NOT NULL, a BOOL, PRIMARY KEY (c, zz, c));",
		statement(api.Stmt{Kind: api.StCreate, Table: "t", Cols: cols, Key: []string{"c", "zz", "c"}}))
	gives(t, "@1 DROP TABLE \"a b\";", "@1 DROP TABLE \"a b\";", statement(api.Stmt{Kind: api.StDrop, Table: "a b"}))
	one, two := []api.Expr{expr(num(1)), expr(col("a"), op(api.ExNeg, 1))}, []api.Expr{expr(op(api.ExNull, 0))}
	gives(t, "@1 insert into t values(1,-a),(null);", "@1 INSERT INTO t VALUES (1, -a), (NULL);", statement(api.Stmt{Kind: api.StInsert, Table: "t", Rows: [][]api.Expr{one, two}}))
	gives(t, "@1 insert into t(b,A)values(1,-a);", "@1 INSERT INTO t (b, a) VALUES (1, -a);", statement(api.Stmt{Kind: api.StInsert, Table: "t", Names: []string{"b", "a"}, Rows: [][]api.Expr{one}}))
	less := expr(col("a"), num(1), op(api.ExLt, 2))
	gives(t, "@1 update t set b=1,a=-a where a<1;", "@1 UPDATE t SET b = 1, a = -a WHERE a < 1;", statement(api.Stmt{Kind: api.StUpdate, Table: "t", Names: []string{"b", "a"}, Rows: [][]api.Expr{one}, Where: less}))
	gives(t, "@1 update t set b=null;", "@1 UPDATE t SET b = NULL;", statement(api.Stmt{Kind: api.StUpdate, Table: "t", Names: []string{"b"}, Rows: [][]api.Expr{two}}))
	gives(t, "@1 delete from t where a<1;", "@1 DELETE FROM t WHERE a < 1;", statement(api.Stmt{Kind: api.StDelete, Table: "t", Where: less}))
	gives(t, "@1 delete from t;", "@1 DELETE FROM t;", statement(api.Stmt{Kind: api.StDelete, Table: "t"}))
	for level, words := range []string{"", "READ COMMITTED", "SNAPSHOT", "REPEATABLE READ", "SERIALIZABLE"} {
		begin := statement(api.Stmt{Kind: api.StBegin, Level: max(level, api.Snapshot)})
		if level == api.ReadCommitted {
			begin.Stmt.Level = level
		}
		print := "@1 BEGIN " + words + ";"
		if level == 0 {
			print = "@1 BEGIN SNAPSHOT;"
		}
		gives(t, "@1 begin "+words+";", print, begin)
	}
}

// P15.3: queries.
func TestQueries(t *testing.T) {
	q := func(text, print string, s api.Stmt) {
		t.Helper()
		s.Kind, s.Table = api.StSelect, "t"
		gives(t, "@1 select "+text+";", "@1 SELECT "+print+";", statement(s))
	}
	a, b := expr(col("a")), expr(col("b"), num(1), op(api.ExAdd, 2))
	q("*from t", "* FROM t", api.Stmt{Limit: -1})
	q("* from t limit 0", "* FROM t LIMIT 0", api.Stmt{})
	q("* from t limit 09223372036854775807", "* FROM t LIMIT 9223372036854775807", api.Stmt{Limit: math.MaxInt64})
	q("a,b+1 as \"X\",a AS abs from t", "a, b + 1 AS \"X\", a AS abs FROM t", api.Stmt{Limit: -1, Items: []api.Item{{Of: a}, {Of: b, As: "X"}, {Of: a, As: "abs"}}})
	q("count(*),count ( * )as n from t", "COUNT(*), COUNT(*) AS n FROM t", api.Stmt{Limit: -1, Items: []api.Item{{Agg: api.AgCount}, {Agg: api.AgCount, As: "n"}}})
	q("count(a),sum(b+1),min(a)as m,max(b+1) from t", "COUNT(a), SUM(b + 1), MIN(a) AS m, MAX(b + 1) FROM t", api.Stmt{Limit: -1, Items: []api.Item{{Agg: api.AgCount, Of: a}, {Agg: api.AgSum, Of: b}, {Agg: api.AgMin, Of: a, As: "m"}, {Agg: api.AgMax, Of: b}}})
	q("* from t where a", "* FROM t WHERE a", api.Stmt{Limit: -1, Where: a})
	q("* from t order by a,b asc,c desc,a", "* FROM t ORDER BY a, b, c DESC, a", api.Stmt{Limit: -1, Order: []api.Sort{{Col: "a"}, {Col: "b"}, {Col: "c", Desc: true}, {Col: "a"}}})
	q("a from t where a order by a desc limit 3", "a FROM t WHERE a ORDER BY a DESC LIMIT 3", api.Stmt{Limit: 3, Items: []api.Item{{Of: a}}, Where: a, Order: []api.Sort{{Col: "a", Desc: true}}})
	q("\"count\" from t", "\"count\" FROM t", api.Stmt{Limit: -1, Items: []api.Item{{Of: expr(col("count"))}}})
}

// P15.6: tokens that cannot stand where they stand.
func TestSyntax(t *testing.T) {
	for text, place := range map[string]int{
		";": 0, ";;": 0, "DRAIN;;": 6, "DRAIN": 5, "DRAIN DRAIN;": 6, "a;": 0, "1;": 0, "'a';": 0, "SELECT * FROM t;": 0, "\"DRAIN\";": 0, "'DRAIN';": 0, "@;": 1, "@": 1, "@1;": 2, "@1": 2, "@a COMMIT;": 1, "@'1' COMMIT;": 1, "@-1 COMMIT;": 1, "@1 \"COMMIT\";": 3, "@1 DRAIN;": 3, "@1 @1 COMMIT;": 3, "@1 COMMIT COMMIT;": 10, "@1 BEGIN @": 9,
		"PLAY;": 4, "PLAY 5;": 5, "PLAY a;": 5, "PLAY 'a' 'b';": 9, "TICK;": 4, "TICK 'a';": 5, "TICK -1;": 5, "TICK 1 2;": 7, "MERGE;": 5, "CUT;": 3, "CRASH,;": 5, "CRASH 1,;": 8, "CRASH 1 2;": 8, "CRASH (1);": 6, "CRASH -1;": 6, "CRASH 1, a;": 9, "DRAIN 1;": 6, "FLUSH 1;": 6, "SYNC 1;": 5, "CHECKPOINT 1;": 11, "RESTART 1;": 8, "CHECK 1;": 6,
		"@1 CREATE t;": 10, "@1 CREATE TABLE (a INT);": 16, "@1 CREATE TABLE table (": 16, "@1 CREATE TABLE t a": 18, "@1 CREATE TABLE t ();": 19, "@1 CREATE TABLE t (a INT);": 24, "@1 CREATE TABLE t (PRIMARY KEY (a));": 19, "@1 CREATE TABLE t (a, PRIMARY": 20, "@1 CREATE TABLE t (a INT NULL": 25, "@1 CREATE TABLE t (a INT NOT, PRIMARY": 28, "@1 CREATE TABLE t (a INT NOT NULL NOT": 34, "@1 CREATE TABLE t (a FLOAT,": 21, "@1 CREATE TABLE t (a \"INT\",": 21, "@1 CREATE TABLE t (a INT,,": 25, "@1 CREATE TABLE t (a INT,)": 25, "@1 CREATE TABLE t (a INT, KEY": 26, "@1 CREATE TABLE t (a INT, PRIMARY (": 34, "@1 CREATE TABLE t (a INT, PRIMARY KEY ());": 39, "@1 CREATE TABLE t (a INT, PRIMARY KEY (a,));": 41, "@1 CREATE TABLE t (a INT, PRIMARY KEY (a);": 41, "@1 CREATE TABLE t (a INT, PRIMARY KEY (a), b INT);": 41, "@1 CREATE TABLE t (a INT, PRIMARY KEY (a)) a": 43, "@1 CREATE TABLE t (a INT, PRIMARY KEY (1": 39,
		"@1 DROP t": 8, "@1 DROP TABLE;": 13, "@1 DROP TABLE 't'": 14, "@1 DROP TABLE t,": 15, "@1 INSERT t": 10, "@1 INSERT INTO (a": 15, "@1 INSERT INTO t;": 16, "@1 INSERT INTO t () VALUES (1);": 18, "@1 INSERT INTO t (a,) VALUES": 20, "@1 INSERT INTO t (1) VALUES": 18, "@1 INSERT INTO t (a) (b)": 21, "@1 INSERT INTO t VALUES;": 23, "@1 INSERT INTO t VALUES ()": 25, "@1 INSERT INTO t VALUES 1": 24, "@1 INSERT INTO t VALUES (1),": 28, "@1 INSERT INTO t VALUES (1) (2)": 28, "@1 INSERT INTO t VALUES (1,)": 27, "@1 INSERT INTO t VALUES (*)": 25, "@1 INSERT INTO t VALUES (1);;": 28,
		"@1 SELECT;": 9, "@1 SELECT FROM t": 10, "@1 SELECT * t": 12, "@1 SELECT *, a FROM t": 11, "@1 SELECT a, * FROM": 13, "@1 SELECT a b FROM": 12, "@1 SELECT a,FROM": 12, "@1 SELECT a AS FROM t": 15, "@1 SELECT a AS 'b'": 15, "@1 SELECT * AS b": 12, "@1 SELECT SUM(*) FROM": 14, "@1 SELECT COUNT(*, a)": 17, "@1 SELECT COUNT()": 16, "@1 SELECT COUNT a": 16, "@1 SELECT COUNT(a, b)": 17, "@1 SELECT COUNT(*) + 1": 19, "@1 SELECT SUM(a) + 1": 17, "@1 SELECT 1 + SUM(a)": 14, "@1 SELECT MAX(MIN(a))": 14, "@1 SELECT (COUNT(*))": 11, "@1 SELECT a FROM 't'": 17, "@1 SELECT a FROM t, u": 18, "@1 SELECT a FROM t WHERE;": 24, "@1 SELECT a FROM t WHERE *": 25, "@1 SELECT a FROM t WHERE COUNT(*)": 25, "@1 SELECT a FROM t a": 19, "@1 SELECT a FROM t ORDER a": 25, "@1 SELECT a FROM t ORDER BY;": 27, "@1 SELECT a FROM t ORDER BY 1": 28, "@1 SELECT a FROM t ORDER BY a b": 30, "@1 SELECT a FROM t ORDER BY a,": 30, "@1 SELECT a FROM t ORDER BY a ASC DESC": 34, "@1 SELECT a FROM t ORDER BY a + 1": 30, "@1 SELECT a FROM t ORDER BY abs(a)": 31, "@1 SELECT a FROM t ORDER BY a WHERE": 30, "@1 SELECT a FROM t LIMIT;": 24, "@1 SELECT a FROM t LIMIT -1": 25, "@1 SELECT a FROM t LIMIT 1 + 1": 27, "@1 SELECT a FROM t LIMIT a": 25, "@1 SELECT a FROM t LIMIT 1 ORDER": 27, "@1 SELECT a FROM t LIMIT 1 LIMIT": 27, "@1 SELECT a FROM t WHERE a WHERE": 27, "@1 SELECT a WHERE b": 12,
		"@1 UPDATE SET": 10, "@1 UPDATE t a": 12, "@1 UPDATE t SET;": 15, "@1 UPDATE t SET a;": 17, "@1 UPDATE t SET a WHERE": 18, "@1 UPDATE t SET a = ;": 20, "@1 UPDATE t SET a == 1": 19, "@1 UPDATE t SET 1 = 1": 16, "@1 UPDATE t SET a = 1,": 22, "@1 UPDATE t SET a = 1, WHERE": 23, "@1 UPDATE t SET a = 1 b": 22, "@1 UPDATE t SET a <> 1": 18, "@1 UPDATE t SET (a) = 1": 16, "@1 UPDATE t SET a = 1 ORDER": 22, "@1 UPDATE t SET f(a) = 1": 17, "@1 DELETE t": 10, "@1 DELETE * FROM": 10, "@1 DELETE FROM;": 14, "@1 DELETE FROM t a": 17, "@1 DELETE FROM t WHERE;": 22, "@1 DELETE FROM t LIMIT 1": 17,
		"@1 BEGIN READ;": 13, "@1 BEGIN READ SNAPSHOT": 14, "@1 BEGIN COMMITTED;": 9, "@1 BEGIN REPEATABLE;": 19, "@1 BEGIN SNAPSHOT SNAPSHOT": 18, "@1 BEGIN READ COMMITTED SNAPSHOT": 24, "@1 BEGIN REPEATABLE READ COMMITTED": 25, "@1 BEGIN \"SNAPSHOT\"": 9, "@1 BEGIN SERIALIZABLE READ": 22, "@1 ROLLBACK 1": 12, "@1 COMMIT 1": 10,
	} {
		fails(t, text, api.ErrSyntax, place)
		fails(t, "DRAIN;\n"+text, api.ErrSyntax, 7+place)
	}
	fails(t, " -- nothing\n/**/", api.OK, 0)
}

// limit holds a list of most entries, and one more, against what may be: head, the entries with commas between them, tail.
func limit(t *testing.T, head, entry, tail string, most int) {
	t.Helper()
	full := head + joined(most, entry)
	fails(t, full+tail, api.OK, 0)
	fails(t, head+entry+tail, api.OK, 0)
	fails(t, full+","+entry+tail, api.ErrMany, len(full))
	fails(t, full+",", api.ErrMany, len(full))
	fails(t, full+",!=", api.ErrMany, len(full))
	fails(t, full+" "+entry, api.ErrSyntax, len(full)+1)
}

// P15.6: lists of as many entries as may be, and of one more.
func TestLongLists(t *testing.T) {
	limit(t, "CRASH ", "1", ";", 16)
	limit(t, "@1 CREATE TABLE t (a INT, PRIMARY KEY (", "a", "));", 16)
	limit(t, "@1 INSERT INTO t (", "a", ") VALUES (1);", 16)
	limit(t, "@1 INSERT INTO t VALUES (", "1", ");", 16)
	limit(t, "@1 INSERT INTO t VALUES (1), (", "a", "), (2);", 16)
	limit(t, "@1 INSERT INTO t VALUES ", "(1)", ";", 64)
	limit(t, "@1 INSERT INTO t VALUES ", "("+joined(16, "1")+")", ";", 64)
	limit(t, "@1 SELECT ", "a", " FROM t;", 16)
	limit(t, "@1 SELECT ", "COUNT(*) AS n", " FROM t;", 16)
	limit(t, "@1 SELECT a, b FROM t ORDER BY ", "a DESC", " LIMIT 1;", 16)
	limit(t, "@1 UPDATE t SET ", "a = 1", " WHERE b;", 16)
	limit(t, "@1 DELETE FROM t WHERE a IN (", "1", ");", 16)
	limit(t, "@1 DELETE FROM t WHERE a NOT IN (", "1", ");", 16)
	for _, f := range []string{"coalesce", "least", "greatest"} {
		limit(t, "@1 DELETE FROM t WHERE "+f+"(", "1", ");", 16)
	}
	for _, f := range []string{"abs", "nullif", "substr"} { // the comma shows ahead of the bracket
		fails(t, "@1 DELETE FROM t WHERE "+f+"("+joined(17, "1")+");", api.ErrMany, len("@1 DELETE FROM t WHERE "+f+"("+joined(16, "1")))
	}
	limit(t, "@1 SELECT a FROM t WHERE b IN ("+joined(16, "1")+") AND c IN (", "2", ");", 16)
	exprFails(t, "least("+joined(16, "least("+joined(16, "1")+")")+")", api.OK, 0)
	exprFails(t, "least("+joined(16, "least("+joined(16, "1")+")")+",1)", api.ErrMany, 6+16*38+15)
}

// P15.6: of columns one too many shows only with its name, since the primary key may stand there.
func TestLongColumns(t *testing.T) {
	for _, column := range []string{"a INT", "\"INT\" TEXT NOT NULL"} {
		head := "@1 CREATE TABLE t (" + joined(16, column)
		fails(t, head+",PRIMARY KEY (a));", api.OK, 0)
		for _, name := range []string{"b", "\"PRIMARY\"", "key1"} {
			fails(t, head+","+name, api.ErrMany, len(head))
			fails(t, head+" , "+name+" INT, PRIMARY KEY (a));", api.ErrMany, len(head)+1)
		}
		for _, other := range []string{"5", "KEY", ",", ")", "(", "'a'", "INT", ";", ""} {
			fails(t, head+","+other, api.ErrSyntax, len(head)+1)
		}
		fails(t, head+";", api.ErrSyntax, len(head))
		fails(t, head+")", api.ErrSyntax, len(head))
		fails(t, head+",PRIMARY (", api.ErrSyntax, len(head)+9)
	}
	head := "@1 CREATE TABLE t (" + joined(15, "a INT")
	fails(t, head+",b INT,PRIMARY KEY (a));", api.OK, 0)
	fails(t, head+",5", api.ErrSyntax, len(head)+1)
}

// P15.6: as many commands as may be, and one more, whatever it is.
func TestManyCommands(t *testing.T) {
	full := many(1000, "SYNC;")
	fails(t, full, api.OK, 0)
	fails(t, full+" -- end", api.OK, 0)
	for _, more := range []string{"SYNC;", "SYNC", ";", "@", "a", "(", "5", "'a'", "<>", "@1 SELECT"} {
		fails(t, full+more, api.ErrMany, 5000)
		fails(t, full+" /* */ "+more, api.ErrMany, 5007)
	}
	fails(t, full+"!", api.ErrChar, 5000)
	fails(t, full+"'", api.ErrUnclosed, 5000)
	short := many(999, "SYNC;")
	fails(t, short+";", api.ErrSyntax, 4995)
	fails(t, short+"SYNC", api.ErrSyntax, 4999)
	fails(t, short+"@1 COMMIT;", api.OK, 0)
	fails(t, many(500, "SYNC;")+"SYNC SYNC;"+full, api.ErrSyntax, 2505)
}

// P15.6: a script of the greatest length is read, with one byte more it is not.
func TestLongestScript(t *testing.T) {
	head := "@1 DELETE FROM t WHERE 1"
	for _, more := range []string{" ", "+1", "\n", "/**/"} {
		full := head + many((api.MaxScript-len(head)-1)/len(more), more)
		full += many(api.MaxScript-1-len(full), " ") + ";"
		want(t, "the text's length", len(full), api.MaxScript)
		fails(t, full, api.OK, 0)
		fails(t, full+" ", api.ErrLong, 0)
		fails(t, full[:api.MaxScript-1], api.ErrSyntax, api.MaxScript-1)
	}
	e := expr(num(1))
	for range 20000 {
		e = append(e, num(1), op(api.ExAdd, 2))
	}
	got, code, at := tongue.ParseExpr("1" + many(20000, "+1"))
	want(t, "P15.4: a long sum", []any{slices.Equal(got, e), code, at}, []any{true, api.OK, 0})
	print, code := tongue.PrintExpr(e)
	want(t, "P15.9: a long sum", []any{print == "1"+many(20000, " + 1"), code}, []any{true, api.OK})
}
