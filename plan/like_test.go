package plan_test

import (
	"fmt"
	"strings"
	"testing"

	"strata/api"
	"strata/plan"
)

// P16.6.
func TestLike(t *testing.T) {
	for _, c := range []struct {
		text, pattern string
		is            bool
	}{
		{"abc", "a%_c", true}, {"abc", "a%__c", false}, {"", "", true}, {"", "%", true}, {"", "%%", true}, {"", "_", false}, {"a", "", false}, {"a", "_", true}, {"a", "%_", true}, {"a", "_%", true}, {"a", "_%_", false}, {"ab", "_%_", true},
		{"aXbXc", "a%X%c", true}, {"aaab", "%ab", true}, {"aaab", "%aab%_", false}, {"aab", "aab%", true}, {"aab", "%aab", true}, {"ab", "ab%ab", false}, {"aba", "ab%ba", false}, {"abba", "ab%ba", true}, {"mississippi", "m%iss%ip%", true}, {"mississippi", "%iss%iss%iss%", false}, {"mississippi", "%iss%_ss%", true}, {"mississippi", "%i_s%pp_", true},
		{"é", "_", true}, {"é", "__", false}, {"\xc3", "_", true}, {"é", "\xc3_", false}, {"é", "\xc3%", false}, {"é", "%\xa9", false}, {"\xc3\xa9", "é", true}, {"\xe2\x82", "__", true}, {"\xe2\x82\xac", "_", true}, {"€", "\xe2%", false}, {"\xff", "\xfe", false}, {"\xff\xfe", "_\xfe", true}, {"\xff", "\ufffd", false}, {"\ufffd", "\xff", false}, {"\ufffd", "\ufffd", true}, {"\ufffd", "_", true}, {"\xef\xbf", "\xef\xbf", true}, {"\xef\xbf", "\ufffd", false}, {"a\x00b", "a_b", true}, {"\U0001f600", "_", true}, {"\xf0\x9f\x98", "___", true},
		{"%", "%", true}, {"a%b", "a%b", true}, {"_", "_", true}, {"A", "a", false}, {"a\nb", "a_b", true}, {"a\nb", "%b", true}, {"ab", "a\\b", false}, {"\\", "\\", true}, {"\xc3%\xa9", "\xc3%\xa9", true}, {"\xc3x\xa9", "\xc3%\xa9", true}, {"\xc3\xa9", "\xc3%\xa9", false},
	} {
		want(t, fmt.Sprintf("P16.6: Like(%q, %q)", c.text, c.pattern), plan.Like(c.text, c.pattern), c.is)
		want(t, fmt.Sprintf("P16.6 a second time: Like(%q, %q)", c.text, c.pattern), plainLike(plainCharacters(c.text), plainCharacters(c.pattern)), c.is)
	}
}

// texts tells all texts of an alphabet up to a length.
func texts(most int, alphabet ...string) []string {
	list := []string{""}
	for from, long := 0, 1; long <= most; long++ {
		end := len(list)
		for _, text := range list[from:end] {
			for _, letter := range alphabet {
				list = append(list, text+letter)
			}
		}
		from = end
	}
	return list
}

// P16.6: every text and every pattern up to some length.
func TestEveryLike(t *testing.T) {
	tried := [2]int{}
	try := func(texts, patterns []string) {
		for _, text := range texts {
			characters := plainCharacters(text)
			for _, pattern := range patterns {
				is := plainLike(characters, plainCharacters(pattern))
				if got := plan.Like(text, pattern); got != is {
					t.Fatalf("P16.6: Like(%q, %q) = %v", text, pattern, got)
				}
				if is {
					tried[1]++
				} else {
					tried[0]++
				}
			}
		}
	}
	try(texts(6, "a", "b"), texts(5, "a", "b", "_", "%"))
	try(texts(9, "a"), texts(7, "a", "_", "%"))
	try(texts(3, "a", "%", "_"), texts(4, "a", "%", "_"))
	try(texts(4, "\xc3", "\xa9", "a"), texts(4, "\xc3", "\xa9", "_", "%"))
	try(texts(3, "\xe2", "\x82", "\xac", "€"), texts(3, "\xe2", "\x82", "\xac", "€", "_", "%"))
	if tried[0] < 50000 || tried[1] < 50000 {
		t.Errorf("P16.6: tried %v", tried)
	}
}

func TestLikeOfMadeUp(t *testing.T) {
	inBatches(t, 30000, func(m *maker) string {
		of := []string{"a", "b", "_", "%"}
		if m.one(2) {
			of = append(of, "é", "\xc3", "\xa9", "€", "\xe2\x82", "\xff", "\ufffd")
		}
		made := func(n int) string { return strings.Join(times(m.Intn(n), func() string { return pick(m, of...) }), "") }
		text, pattern := made(40), made(15)
		if m.one(2) { // one that is like it, often
			pattern = ""
			for _, c := range plainCharacters(text) {
				pattern += pick(m, c, c, "_", "%", "%"+c, "")
			}
		}
		if got, is := plan.Like(text, pattern), plainLike(plainCharacters(text), plainCharacters(pattern)); got != is {
			return fmt.Sprintf("P16.6: Like(%q, %q) = %v", text, pattern, got)
		}
		return ""
	})
}

// P16.6: texts of any length, also those that are like many begins of the pattern.
func TestLongLikes(t *testing.T) {
	const n = 1 << 20
	as := many(n, "a")
	for _, c := range []struct {
		text, pattern string
		is            bool
	}{
		{as, many(n, "_"), true}, {as, many(n+1, "_"), false}, {as, many(n, "%"), true}, {as, many(n/2, "%a"), true}, {as, many(1000, "%a") + "%b", false}, {as, many(1000, "%a") + "b", false}, {as + "b", many(1000, "%a") + "%b", true}, {as, "%" + many(n-1, "_") + "%", true}, {as, many(n/2, "_%_"), true}, {as, many(n/2, "_%_") + "_", false}, {many(n, "é"), many(n, "_"), true}, {many(n, "\xff"), many(n/2, "%\xff"), true}, {as, as, true}, {as, as[1:], false}, {as[1:], as, false}, {as, "%" + many(500, "a") + "b%", false}, {as + "b", "%" + as[1:] + "b", true},
	} {
		if got := plan.Like(c.text, c.pattern); got != c.is {
			t.Errorf("P16.6: Like of %d bytes, %.20q.. of %d bytes: %v", len(c.text), c.pattern, len(c.pattern), got)
		}
	}
	v, code := plan.Eval(over(op(api.ExLike), written(tx(many(api.MaxText, "a"))), written(tx(many(api.MaxText/2, "%a")))), nil, nil)
	want(t, "P16.5: LIKE with long texts", list(v, code), list(bo(true), api.OK))
}
