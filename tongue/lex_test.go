package tongue_test

import (
	"fmt"
	"strings"
	"testing"

	"strata/api"
	"strata/tongue"
)

func lexesAt0(t *testing.T, text string, right api.Token) {
	t.Helper()
	lexes(t, text, []int{0}, right)
}

// P15.1: words, and keywords in any letters.
func TestWords(t *testing.T) {
	for _, word := range strings.Fields(plainKeywords) {
		small := strings.ToLower(word)
		mixed := small[:1] + word[1:]
		for _, text := range []string{word, small, mixed, word[:1] + small[1:]} {
			lexesAt0(t, text, key(word))
			lexesAt0(t, `"`+text+`"`, name(text))
			lexesAt0(t, text+"_", name(small+"_"))
			lexesAt0(t, "_"+text, name("_"+small))
			lexesAt0(t, text+"1", name(small+"1"))
		}
	}
	for _, text := range []string{"a", "z", "A", "Z", "_", "__", "a0", "a9", "Az_9", "x", "X", "xa", "ax", "abs", "float"} {
		lexesAt0(t, text, name(strings.ToLower(text)))
	}
	lexes(t, "a b\tC\nd\re", []int{0, 2, 4, 6, 8}, name("a"), name("b"), name("c"), name("d"), name("e"))
	lexes(t, "a\"B\"c", []int{0, 1, 4}, name("a"), name("B"), name("c"))
	lexes(t, "", nil)
	lexes(t, " \t\n\r", nil)
}

// P15.1: quoted names are taken as they stand.
func TestQuotedNames(t *testing.T) {
	lexesAt0(t, `"a""b"`, name(`a"b`))
	lexesAt0(t, `""""`, name(`"`))
	lexesAt0(t, `""""""`, name(`""`))
	lexesAt0(t, "\"\x00\xff\n'--/*\"", name("\x00\xff\n'--/*"))
	lexesAt0(t, `"AbC"`, name("AbC"))
	lexesAt0(t, `" "`, name(" "))
	lexes(t, `"a" "b"`, []int{0, 4}, name("a"), name("b"))
	lexes(t, `"a"'b'`, []int{0, 3}, name("a"), literal("b"))
}

// P15.1: integers, with zeros ahead of them too.
func TestIntegers(t *testing.T) {
	lexesAt0(t, "0", number(0))
	lexesAt0(t, "007", number(7))
	lexesAt0(t, "9223372036854775807", number(9223372036854775807))
	lexesAt0(t, many(1000, "0")+"9223372036854775807", number(9223372036854775807))
	lexesAt0(t, many(api.MaxScript, "0"), number(0))
	lexes(t, "1 2", []int{0, 2}, number(1), number(2))
	lexes(t, "1'a'", []int{0, 1}, number(1), literal("a"))
	lexes(t, "1\"a\"", []int{0, 1}, number(1), name("a"))
	lexes(t, "-1", []int{0, 1}, sign("-"), number(1))
	lexes(t, "1/**/a", []int{0, 5}, number(1), name("a"))
	for _, text := range []string{"9223372036854775808", "9223372036854775810", "18446744073709551616", "18446744073709551617", many(100, "9"), "1a", "1_", "1Z", "0x41", "1x'41'", "007a", "99999999999999999999a", "1select"} {
		lexFails(t, text, api.ErrNumeral, 0)
		lexFails(t, " a "+text, api.ErrNumeral, 3)
	}
	lexFails(t, "1\x80", api.ErrChar, 1)
	lexFails(t, "1.5", api.ErrChar, 1)
}

// P15.1: texts, and what stands in them is no comment.
func TestTexts(t *testing.T) {
	lexesAt0(t, "''", literal(""))
	lexesAt0(t, "''''", literal("'"))
	lexesAt0(t, "''''''", literal("''"))
	lexesAt0(t, "'it''s'", literal("it's"))
	lexesAt0(t, "'-- /* \" \n \x00 \xff'", literal("-- /* \" \n \x00 \xff"))
	lexesAt0(t, "'SELECT'", literal("SELECT"))
	lexes(t, "'a' 'b'", []int{0, 4}, literal("a"), literal("b"))
	lexes(t, "'a'-- 'b'\n'c'", []int{0, 10}, literal("a"), literal("c"))
	lexesAt0(t, "'"+many(4096, "t")+"'", literal(many(4096, "t")))
	lexesAt0(t, "'"+many(4096, "''")+"'", literal(many(4096, "'")))
	lexFails(t, "'"+many(4097, "t")+"'", api.ErrLong, 0)
	lexFails(t, "a'"+many(4097, "''")+"'", api.ErrLong, 1)
	for _, text := range []string{"'", "'a", "'''", "'''''", "'a''", "'" + many(5000, "t"), "'--\n", "'/**/"} {
		lexFails(t, text, api.ErrUnclosed, 0)
		lexFails(t, "1 "+text, api.ErrUnclosed, 2)
	}
}

// P15.1: texts in hex digits.
func TestHexTexts(t *testing.T) {
	lexesAt0(t, "x''", literal(""))
	lexesAt0(t, "X''", literal(""))
	lexesAt0(t, "x'00ff'", literal("\x00\xff"))
	lexesAt0(t, "X'0123456789abcdefABCDEF'", literal("\x01\x23\x45\x67\x89\xab\xcd\xef\xab\xcd\xef"))
	lexes(t, "x'41''42'", []int{0, 5}, literal("A"), literal("42"))
	lexes(t, "x '41'", []int{0, 2}, name("x"), literal("41"))
	lexes(t, "X\n'41'", []int{0, 2}, name("x"), literal("41"))
	lexes(t, "ax'41'", []int{0, 2}, name("ax"), literal("41"))
	lexes(t, "xx'41'", []int{0, 2}, name("xx"), literal("41"))
	lexes(t, "_x'41'", []int{0, 2}, name("_x"), literal("41"))
	lexes(t, "\"x\"'41'", []int{0, 3}, name("x"), literal("41"))
	lexes(t, "x\"41\"", []int{0, 1}, name("x"), name("41"))
	lexesAt0(t, "x'"+many(4096, "0a")+"'", literal(many(4096, "\n")))
	lexFails(t, "x'"+many(4097, "0a")+"'", api.ErrLong, 0)
	for _, text := range []string{"x'0'", "X'000'", "x'0g'", "x'g0'", "x'zz'", "x' 0'", "x'0G'", "x'\x00\x00'", "x'\xff\xff'", "x'4a '", "x'4a\n'", "x'@@'", "x'``'", "x'//'", "x'::'", "x'0'''", "x'--'", "x'" + many(8193, "0") + "'", "x'" + many(8194, "g") + "'"} {
		lexFails(t, text, api.ErrHex, 0)
		lexFails(t, "( "+text, api.ErrHex, 2)
	}
	for _, text := range []string{"x'", "X'", "x'0", "x'0g", "x'00", "x'" + many(9000, "0"), "x'\""} {
		lexFails(t, text, api.ErrUnclosed, 0)
		lexFails(t, "\n"+text, api.ErrUnclosed, 1)
	}
}

// P15.1: every sign, the longest first.
func TestSigns(t *testing.T) {
	for _, text := range strings.Fields(plainSigns) {
		lexesAt0(t, text, sign(text))
		lexes(t, "a"+text+"b", []int{0, 1, 1 + len(text)}, name("a"), sign(text), name("b"))
	}
	lexesAt0(t, "!=", sign("<>"))
	lexes(t, "<>=", []int{0, 2}, sign("<>"), sign("="))
	lexes(t, "<=>", []int{0, 2}, sign("<="), sign(">"))
	lexes(t, "><", []int{0, 1}, sign(">"), sign("<"))
	lexes(t, "< >", []int{0, 2}, sign("<"), sign(">"))
	lexes(t, "==", []int{0, 1}, sign("="), sign("="))
	lexes(t, "*/", []int{0, 1}, sign("*"), sign("/"))
	lexes(t, "- -", []int{0, 2}, sign("-"), sign("-"))
	lexes(t, "/ *", []int{0, 2}, sign("/"), sign("*"))
	lexes(t, "||||", []int{0, 2}, sign("||"), sign("||"))
	lexes(t, "!=!=", []int{0, 2}, sign("<>"), sign("<>"))
	for _, text := range []string{"!", "|", "!!", "! =", "| |", "|a", "!<", "|!", "!|"} {
		lexFails(t, text, api.ErrChar, 0)
		lexFails(t, "a "+text, api.ErrChar, 2)
	}
	lexFails(t, "|||", api.ErrChar, 2)
	lexFails(t, "!==!", api.ErrChar, 3)
}

// P15.2: every byte that begins no token is told of as such.
func TestOtherBytes(t *testing.T) {
	for b := range 256 {
		text := string([]byte{byte(b)})
		_, code, place := plainLex(text)
		tokens, e, at := tongue.Lex(text)
		want(t, fmt.Sprintf("P15.2: the byte %d", b), []any{e, at, len(tokens) > 0}, []any{code, place, code == api.OK})
		if b < 128 && strings.Contains("()*+,-/%=<>;@ \t\n\r_\"'", text) || b >= '0' && b <= '9' || b >= 'a' && b <= 'z' || b >= 'A' && b <= 'Z' {
			continue
		}
		lexFails(t, text, api.ErrChar, 0)
		lexFails(t, "a"+text, api.ErrChar, 1)
		lexFails(t, "1"+text, api.ErrChar, 1)
		lexFails(t, "'a' "+text+"'", api.ErrChar, 4)
		lexesAt0(t, "'"+text+"'", literal(text))
		lexesAt0(t, "\""+text+"\"", name(text))
		lexes(t, "--"+text, nil)
		lexes(t, "/*"+text+"*/", nil)
	}
	for _, text := range []string{"\x00", "\x80", "\xc3\xa4", "\xe2\x80\xa8", "\u00a0", "\v", "\f"} {
		lexFails(t, "a "+text, api.ErrChar, 2)
	}
}

// P15.1: comments stand between tokens.
func TestComments(t *testing.T) {
	lexes(t, "--", nil)
	lexes(t, "-- a", nil)
	lexes(t, "a-- b\rc\n--d\ne", []int{0, 12}, name("a"), name("e"))
	lexes(t, "---1\n2", []int{5}, number(2))
	lexes(t, "a--", []int{0}, name("a"))
	lexes(t, "-- '\n'a'", []int{5}, literal("a"))
	lexes(t, "/**/", nil)
	lexes(t, "/***/", nil)
	lexes(t, "/*/*/", nil)
	lexes(t, "/*/ */a", []int{6}, name("a"))
	lexes(t, "/* -- */a", []int{8}, name("a"))
	lexes(t, "-- /*\na", []int{6}, name("a"))
	lexes(t, "/* /* */ a */", []int{9, 11, 12}, name("a"), sign("*"), sign("/"))
	lexes(t, "a/* ' \" \n \x00 */b", []int{0, 14}, name("a"), name("b"))
	lexes(t, "a/**//**/b", []int{0, 9}, name("a"), name("b"))
	lexes(t, "1-/**/-2", []int{0, 1, 6, 7}, number(1), sign("-"), sign("-"), number(2))
	for _, text := range []string{"/*", "/*/", "/* a", "/* *", "/* * /", "/*'*'/"} {
		lexFails(t, text, api.ErrUnclosed, 0)
		lexFails(t, "a "+text, api.ErrUnclosed, 2)
		lexFails(t, "/**/"+text, api.ErrUnclosed, 4)
	}
}

// P15.2: names that are too long, or empty.
func TestLongNames(t *testing.T) {
	lexesAt0(t, many(32, "n"), name(many(32, "n")))
	lexesAt0(t, many(32, "N"), name(many(32, "n")))
	lexesAt0(t, "\""+many(32, "N")+"\"", name(many(32, "N")))
	lexesAt0(t, "\""+many(32, "\"\"")+"\"", name(many(32, "\"")))
	lexesAt0(t, "\""+many(16, "ä")+"\"", name(many(16, "ä")))
	for _, text := range []string{many(33, "n"), many(33, "_"), "n" + many(32, "9"), "\"\"", "\"" + many(33, "n") + "\"", "\"" + many(33, "\"\"") + "\"", "\"" + many(16, "ä") + "a\"", many(api.MaxScript-1, "n")} {
		lexFails(t, text, api.ErrIdent, 0)
		lexFails(t, ";"+text, api.ErrIdent, 1)
	}
	for _, text := range []string{"\"", "\"a", "\"\"\"", "\"a\"\"", "\"" + many(100, "n")} {
		lexFails(t, text, api.ErrUnclosed, 0)
		lexFails(t, ";"+text, api.ErrUnclosed, 1)
	}
}

// P15.1: texts of the greatest length, and above.
func TestLongScripts(t *testing.T) {
	lexes(t, many(api.MaxScript, " "), nil)
	lexes(t, "--"+many(api.MaxScript-2, "-"), nil)
	lexes(t, many(api.MaxScript-1, " ")+"a", []int{api.MaxScript - 1}, name("a"))
	for _, text := range []string{" ", "'", "!", "\x00", "a", "1", ";", "/*", "ä"} {
		lexFails(t, many(api.MaxScript+1, text), api.ErrLong, 0)
		lexFails(t, many(api.MaxScript/len(text), text)+many(len(text), " "), api.ErrLong, 0)
	}
	lexFails(t, many(api.MaxScript-1, " ")+"!", api.ErrChar, api.MaxScript-1)
	lexFails(t, many(api.MaxScript-1, "'"), api.ErrUnclosed, 0)
}

// P15.2: of several faults the first one from the left is told.
func TestFirstFault(t *testing.T) {
	long := many(33, "n")
	lexFails(t, "! 'a", api.ErrChar, 0)
	lexFails(t, "1a ! 'a", api.ErrNumeral, 0)
	lexFails(t, "a "+long+" 1a", api.ErrIdent, 2)
	lexFails(t, "x'0' !", api.ErrHex, 0)
	lexFails(t, "'"+many(4097, "t")+"' "+long, api.ErrLong, 0)
	lexFails(t, "a = = ! \"", api.ErrChar, 6)
	lexFails(t, "/* ! */ | /*", api.ErrChar, 8)
	lexFails(t, "! = !=", api.ErrChar, 0)
	lexFails(t, "\"a 1a !", api.ErrUnclosed, 0)
	lexFails(t, ") ) \"\"", api.ErrIdent, 4)
}
