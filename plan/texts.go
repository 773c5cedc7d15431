package plan

import (
	"strings"
	"unicode/utf8"

	"strata/api"
)

// characters tells the characters of a text as numbers, of which two are the same just if the bytes are: a byte that begins none has a number below 0.
func characters(text string) []rune {
	var list []rune
	for at, r := range text {
		if r == utf8.RuneError && !strings.HasPrefix(text[at:], string(utf8.RuneError)) {
			r = -1 - rune(text[at])
		}
		list = append(list, r)
	}
	return list
}

func concatenate(a, b api.Value) api.Value {
	if len(a.Text)+len(b.Text) > api.MaxText {
		panic(api.ErrLong)
	}
	return textValue(a.Text + b.Text)
}

func length(v []api.Value) api.Value { return intValue(int64(utf8.RuneCountInString(v[0].Text))) }

func lower(v []api.Value) api.Value { return turned(v[0].Text, 'A', 'a') }

func upper(v []api.Value) api.Value { return turned(v[0].Text, 'a', 'A') }

// turned turns the letters of one alphabet into those of another, byte by byte.
func turned(text string, from, to byte) api.Value {
	bytes := []byte(text)
	for i, b := range bytes {
		if b >= from && b <= from+('z'-'a') {
			bytes[i] = b - from + to
		}
	}
	return textValue(string(bytes))
}

// part is a text's characters with the numbers from the second value on, as many as the third one says.
func part(v []api.Value) api.Value {
	text, number := v[0].Text, int64(0)
	low, high := len(text), len(text)
	for at := range text {
		number++
		switch inside := isWithin(number, v[1].Int, v[2].Int); {
		case inside && low == len(text):
			low = at
		case !inside && low < at && high == len(text):
			high = at
		}
	}
	return textValue(text[low:high])
}

// isWithin tells whether a number is one of so many from another one on; their sum may be beyond all numbers.
func isWithin(number, from, count int64) bool {
	return from <= number && count > 0 && uint64(number)-uint64(from) < uint64(count)
}

func like(a, b api.Value) api.Value { return truth(isLike(a.Text, b.Text)) }

// isLike looks for what stands between the percent signs, each piece as early as may be; the first piece has to begin the text, and the last one to end it.
func isLike(text, pattern string) bool {
	rest := characters(text)
	pieces := strings.Split(pattern, "%")
	last := len(pieces) - 1
	first := characters(pieces[0])
	if !begins(rest, first) {
		return false
	}
	rest = rest[len(first):]
	if last == 0 {
		return len(rest) == 0
	}
	for _, piece := range pieces[1:last] {
		found := behind(rest, characters(piece))
		if found < 0 {
			return false
		}
		rest = rest[found:]
	}
	end := characters(pieces[last])
	return len(end) <= len(rest) && begins(rest[len(rest)-len(end):], end)
}

// begins tells whether a piece of a pattern stands at the begin of a text.
func begins(text, piece []rune) bool {
	if len(piece) > len(text) {
		return false
	}
	for i, r := range piece {
		if r != '_' && r != text[i] {
			return false
		}
	}
	return true
}

// behind tells the place behind the first occurrence of a piece; -1: there is none.
func behind(text, piece []rune) int {
	for at := range len(text) - len(piece) + 1 {
		if begins(text[at:], piece) {
			return at + len(piece)
		}
	}
	return -1
}
