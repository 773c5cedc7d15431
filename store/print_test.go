package store_test

import (
	"fmt"
	"math"
	"strings"
	"testing"

	"strata/api"
	"strata/store"
)

// P17.12: the head of each kind, the code, the numbers.
func TestPrintHeads(t *testing.T) {
	for kind, word := range map[int]string{
		api.CmStmt: "@0", api.CmPlay: "PLAY", api.CmDrain: "DRAIN", api.CmTick: "TICK", api.CmFlush: "FLUSH", api.CmSync: "SYNC", api.CmCheckpoint: "CHECKPOINT", api.CmMerge: "MERGE",
		api.CmCrash: "CRASH", api.CmRestart: "RESTART", api.CmCheck: "CHECK", api.CmCut: "CUT", 0: "?", -1: "?", 13: "?", 99: "?", math.MinInt: "?", math.MaxInt: "?",
	} {
		want(t, fmt.Sprintf("P17.12: kind %d", kind), store.Print(api.Reply{Kind: kind}), "0 "+word+" OK\n")
		numbers := " 1 -2 0"
		if kind == api.CmStmt {
			numbers = ""
		}
		want(t, fmt.Sprintf("P17.12: kind %d", kind), store.Print(api.Reply{Command: 7, Kind: kind, Code: api.ErrDown, Numbers: []int{1, -2, 0}}), "7 "+word+" E170"+numbers+"\n")
	}
	want(t, "P17.12: numbers at the ends", store.Print(api.Reply{Command: math.MinInt, Kind: api.CmSync, Code: api.Errno(math.MinInt), Numbers: []int{math.MaxInt, math.MinInt}}),
		"-9223372036854775808 SYNC E-9223372036854775808 9223372036854775807 -9223372036854775808\n")
	want(t, "P17.12: a session", store.Print(api.Reply{Command: math.MaxInt, Kind: api.CmStmt, Who: -3, Code: -1}), "9223372036854775807 @-3 E-1\n")
	want(t, "P17.12: of others Who and Result are not told", store.Print(api.Reply{Kind: api.CmTick, Who: 3, Result: api.Result{Count: 1, Stamp: 2, End: 1, Names: []string{"a"}, Rows: [][]api.Value{{{}}}}, Numbers: []int{5}}), "0 TICK OK 5\n")
	want(t, "P17.12: no replies", store.Print(), "")
	want(t, "P17.12: several", store.Print(api.Reply{Kind: api.CmTick}, api.Reply{Command: 1, Kind: api.CmCut, Code: 3}), "0 TICK OK\n1 CUT E3\n")
}

// P17.12: what a statement has come to: count, stamp, end, each where it is something.
func TestPrintResults(t *testing.T) {
	for _, c := range []struct {
		result api.Result
		right  string
	}{
		{api.Result{}, ""},
		{api.Result{Code: 9}, ""},
		{api.Result{Count: 1}, " count 1"},
		{api.Result{Count: -1}, " count -1"},
		{api.Result{Count: math.MinInt}, " count -9223372036854775808"},
		{api.Result{Stamp: 1}, " stamp 1"},
		{api.Result{Stamp: math.MaxUint64}, " stamp 18446744073709551615"},
		{api.Result{End: api.EndCommit}, " commit"},
		{api.Result{End: api.EndAbort}, " abort"},
		{api.Result{End: 3}, ""},
		{api.Result{End: -1}, ""},
		{api.Result{Count: 2, Stamp: 3, End: 1}, " count 2 stamp 3 commit"},
		{api.Result{Rows: [][]api.Value{{{}}}}, ""},
		{api.Result{Names: []string{}, Rows: [][]api.Value{{{}}}}, ""},
		{api.Result{Names: []string{""}}, "\n| ''"},
		{api.Result{Count: 1, Names: []string{"a", "it's", "''", "\n", "\xff", "é"}}, " count 1\n| 'a', 'it''s', '''''', '\n', '\xff', 'é'"},
		{api.Result{Names: []string{"a"}, Rows: [][]api.Value{nil, {{}}, {{}, {}}}}, "\n| 'a'\n  \n  NULL\n  NULL, NULL"},
	} {
		want(t, fmt.Sprintf("P17.12: %+v", c.result), store.Print(api.Reply{Kind: api.CmStmt, Who: 1, Result: c.result}), "0 @1 OK"+c.right+"\n")
	}
}

// P17.12: values of every kind.
func TestPrintValues(t *testing.T) {
	for _, c := range []struct {
		value api.Value
		right string
	}{
		{api.Value{}, "NULL"},
		{api.Value{Int: 1, Text: "x"}, "NULL"},
		{api.Value{Kind: api.KBool}, "FALSE"},
		{api.Value{Kind: api.KBool, Int: 1}, "TRUE"},
		{api.Value{Kind: api.KBool, Int: 2}, "FALSE"},
		{api.Value{Kind: api.KBool, Int: -1}, "FALSE"},
		{api.Value{Kind: api.KInt}, "0"},
		{api.Value{Kind: api.KInt, Int: math.MaxInt64}, "9223372036854775807"},
		{api.Value{Kind: api.KInt, Int: math.MinInt64, Text: "x"}, "-9223372036854775808"},
		{api.Value{Kind: api.KText}, "''"},
		{api.Value{Kind: api.KText, Text: "it's\n\x00\xff'", Int: 3}, "'it''s\n\x00\xff'''"},
		{api.Value{Kind: 4, Int: 1}, "NULL"},
		{api.Value{Kind: -1}, "NULL"},
	} {
		want(t, fmt.Sprintf("P17.12: %+v", c.value), store.Print(api.Reply{Kind: api.CmStmt, Result: api.Result{Names: []string{"n"}, Rows: [][]api.Value{{c.value, c.value}}}}), "0 @0 OK\n| 'n'\n  "+c.right+", "+c.right+"\n")
	}
}

// plainPrint writes a reply a second time.
func plainPrint(r api.Reply) string {
	words := []string{fmt.Sprint(r.Command)}
	all := strings.Fields("? @ PLAY DRAIN TICK FLUSH SYNC CHECKPOINT MERGE CRASH RESTART CHECK CUT")
	switch {
	case r.Kind == 1:
		words = append(words, fmt.Sprintf("@%d", r.Who))
	case r.Kind < 0 || r.Kind >= len(all):
		words = append(words, "?")
	default:
		words = append(words, all[r.Kind])
	}
	if r.Code == 0 {
		words = append(words, "OK")
	} else {
		words = append(words, fmt.Sprintf("E%d", int(r.Code)))
	}
	if r.Kind != 1 {
		for _, n := range r.Numbers {
			words = append(words, fmt.Sprint(n))
		}
		return strings.Join(words, " ") + "\n"
	}
	x := r.Result
	if x.Count != 0 {
		words = append(words, fmt.Sprintf("count %d", x.Count))
	}
	if x.Stamp != 0 {
		words = append(words, fmt.Sprintf("stamp %d", x.Stamp))
	}
	if x.End == 1 || x.End == 2 {
		words = append(words, []string{"commit", "abort"}[x.End-1])
	}
	text := strings.Join(words, " ") + "\n"
	if len(x.Names) == 0 {
		return text
	}
	quote := func(s string) string { return "'" + strings.Join(strings.Split(s, "'"), "''") + "'" }
	line := func(begin string, parts []string) string { return begin + " " + strings.Join(parts, ", ") + "\n" }
	var names []string
	for _, n := range x.Names {
		names = append(names, quote(n))
	}
	text += line("|", names)
	for _, row := range x.Rows {
		var values []string
		for _, v := range row {
			word := "NULL"
			switch int(v.Kind) {
			case 1:
				word = strings.ToUpper(fmt.Sprint(v.Int == 1))
			case 2:
				word = fmt.Sprint(v.Int)
			case 3:
				word = quote(v.Text)
			}
			values = append(values, word)
		}
		text += line(" ", values)
	}
	return text
}

// P17.12: replies made up of anything.
func TestPrintAnything(t *testing.T) {
	inBatches(t, 20000, func(m *maker) string {
		rs := anything[[]api.Reply](m)
		right := ""
		for i := range rs {
			if m.one(2) {
				rs[i].Kind = m.Intn(15) - 1
			}
			right += plainPrint(rs[i])
		}
		if got := store.Print(rs...); got != right {
			return fmt.Sprintf("P17.12: Print(%+v): %q, want %q", rs, got, right)
		}
		return ""
	})
}

// P17.12: texts and names from a statement to the text.
func TestPrintThrough(t *testing.T) {
	text, code := store.Run(chapterSetup(), "@1 CREATE TABLE \"T's\" (\"the 'key'\" TEXT, n INT, b BOOL, PRIMARY KEY (\"the 'key'\")); @1 INSERT INTO \"T's\" VALUES ('it''s\n', -9223372036854775807 - 1, TRUE), (x'ff00', 9223372036854775807, FALSE), ('', NULL, NULL); @1 SELECT *, n AS \"a\nb\" FROM \"T's\"; DRAIN;")
	want(t, "P17.13: a star among items is none", list(text, code), list("? E155 at "+fmt.Sprint(strings.Index("@1 CREATE TABLE \"T's\" (\"the 'key'\" TEXT, n INT, b BOOL, PRIMARY KEY (\"the 'key'\")); @1 INSERT INTO \"T's\" VALUES ('it''s\n', -9223372036854775807 - 1, TRUE), (x'ff00', 9223372036854775807, FALSE), ('', NULL, NULL); @1 SELECT *, n", "*,")+1)+"\n", api.ErrSyntax))
	s := made(t, chapterSetup())
	tells(t, "P17.12", s, "@1 CREATE TABLE \"T's\" (\"the 'key'\" TEXT, n INT, b BOOL, PRIMARY KEY (\"the 'key'\")); @1 INSERT INTO \"T's\" VALUES ('it''s\n', -9223372036854775807 - 1, TRUE), (x'ff00', 9223372036854775807, FALSE), ('', NULL, NULL); @1 SELECT * FROM \"T's\"; @1 SELECT n AS \"a\nb\" FROM \"T's\" WHERE b; DRAIN;",
		"0 @1 OK stamp 2 commit", "1 @1 OK count 3 stamp 4 commit", "2 @1 OK count 3 stamp 6 commit", "| 'the ''key''', 'n', 'b'", "  '', NULL, NULL", "  'it''s\n', -9223372036854775808, TRUE", "  '\xff\x00', 9223372036854775807, FALSE",
		"3 @1 OK count 1 stamp 8 commit", "| 'a\nb'", "  -9223372036854775808", "4 DRAIN OK")
}

// P17.13: several scripts on one store; the first that is refused ends it; the error of New comes with no text.
func TestRun(t *testing.T) {
	for _, c := range []struct {
		scripts []string
		text    string
		code    api.Errno
	}{
		{nil, "", api.OK},
		{[]string{""}, "", api.OK},
		{[]string{"FLUSH;", "", "-- nothing", "SYNC; @1 BEGIN;", "DRAIN;"}, "0 FLUSH OK\n1 SYNC OK\n2 @1 OK stamp 1\n3 DRAIN OK 5\n", api.OK},
		{[]string{"FLUSH", "SYNC;"}, "? E155 at 5\n", api.ErrSyntax},
		{[]string{"FLUSH;", "SYNC; 'x", "FLUSH;", "oh"}, "0 FLUSH OK\n? E151 at 6\n", api.ErrUnclosed},
		{[]string{"CRASH;", "FLUSH;", "RESTART;", "FLUSH; \x01"}, "0 CRASH OK\n1 FLUSH E170\n2 RESTART OK 0 0 0 0\n? E150 at 7\n", api.ErrChar},
		{[]string{strings.Repeat("-", api.MaxScript+1)}, "? E4 at 0\n", api.ErrLong},
	} {
		text, code := store.Run(chapterSetup(), c.scripts...)
		want(t, fmt.Sprintf("P17.13: Run(%.300q)", c.scripts), list(text, code), list(c.text, c.code))
	}
	wrong := chapterSetup()
	wrong.Limit = 0
	text, code := store.Run(wrong, "FLUSH;", "oh")
	want(t, "P17.13: a setup that is none", list(text, code), list("", api.ErrUnfit))
}
