package image

import (
	"strconv"
	"strings"
)

const (
	dataPrefix     = "data-"
	deltaPrefix    = "delta-"
	manifestPrefix = "manifest-"
	tempPrefix     = "tmp-" // ahead of a manifest's name
	digits         = 8      // of each number
)

// Kinds of files.
const (
	otherFile = iota
	dataFile
	deltaFile
	manifestFile
	tempFile
)

// title is what a name says: the kind of the file, and the numbers that a name of that kind has (0 for one that it has not).
type title struct{ kind, id, gen int }

// titleOf reads a name; what is none of this layer's is otherFile.
func titleOf(name string) title {
	if rest, ok := strings.CutPrefix(name, dataPrefix); ok {
		return title{kind: dataFile, id: number(rest)}.checked()
	}
	if rest, ok := strings.CutPrefix(name, deltaPrefix); ok {
		id, gen, _ := strings.Cut(rest, "-")
		return title{kind: deltaFile, id: number(id), gen: number(gen)}.checked()
	}
	if rest, ok := strings.CutPrefix(name, manifestPrefix); ok {
		return title{kind: manifestFile, gen: number(rest)}.checked()
	}
	if rest, ok := strings.CutPrefix(name, tempPrefix+manifestPrefix); ok {
		return title{kind: tempFile, gen: number(rest)}.checked()
	}
	return title{}
}

// checked makes otherFile of a title that lacks one of its numbers.
func (t title) checked() title {
	needsId := t.kind == dataFile || t.kind == deltaFile
	needsGen := t.kind != dataFile
	if needsId && t.id == 0 || needsGen && t.gen == 0 {
		return title{}
	}
	return t
}

// number tells that of eight digits, and 0 of all else.
func number(s string) int {
	if len(s) != digits {
		return 0
	}
	n := 0
	for i := range len(s) {
		if s[i] < '0' || s[i] > '9' {
			return 0
		}
		n = n*10 + int(s[i]-'0')
	}
	return n
}

func dataName(id int) string       { return dataPrefix + eight(id) }
func deltaName(id, gen int) string { return deltaPrefix + eight(id) + "-" + eight(gen) }
func manifestName(gen int) string  { return manifestPrefix + eight(gen) }

// eight tells a number of at most MaxFileNo with its leading zeros.
func eight(n int) string {
	text := strconv.Itoa(n)
	return strings.Repeat("0", digits-len(text)) + text
}
