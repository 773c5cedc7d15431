package revive

import (
	"strings"

	"strata/api"
)

// pattern of names: letters, and behind them so many numbers of so many digits, with a dash between.
type pattern struct {
	kind    int
	letters string
	numbers int
	digits  int
}

// No letters are the beginning of another one's.
var patterns = [5]pattern{
	{api.FileSegment, "log-", 1, 6},
	{api.FileData, "data-", 1, 8},
	{api.FileDelta, "delta-", 2, 8},
	{api.FileManifest, "manifest-", 1, 8},
	{api.FileTemp, "tmp-manifest-", 1, 8},
}

// title is what a name says: the kind of the file, and the numbers in their order (0 for one that it has not).
type title struct {
	kind    int
	numbers [2]int
}

// titleOf reads a name; what is none of a log's or a checkpoint's is FileOther, without numbers.
func titleOf(name string) title {
	for _, p := range patterns {
		if rest, ok := strings.CutPrefix(name, p.letters); ok {
			return p.title(rest)
		}
	}
	return title{}
}

// title reads what stands behind the letters.
func (p pattern) title(rest string) title {
	parts := strings.Split(rest, "-")
	if len(parts) != p.numbers {
		return title{}
	}
	t := title{kind: p.kind}
	for i, part := range parts {
		t.numbers[i] = number(part, p.digits)
		if t.numbers[i] == 0 {
			return title{}
		}
	}
	return t
}

// number tells that of just so many digits, and 0 of all else.
func number(s string, digits int) int {
	if len(s) != digits {
		return 0
	}
	n := 0
	for i := range len(s) {
		if s[i] < '0' || s[i] > '9' {
			return 0
		}
		n = n*10 + int(s[i]-'0')
	}
	return n
}
