package store

import (
	"strconv"
	"strings"

	"strata/api"
)

// keywords of the commands that are no statements, by their kinds.
func keywords() [api.CmCut + 1]string {
	return [...]string{
		api.CmPlay:       "PLAY",
		api.CmDrain:      "DRAIN",
		api.CmTick:       "TICK",
		api.CmFlush:      "FLUSH",
		api.CmSync:       "SYNC",
		api.CmCheckpoint: "CHECKPOINT",
		api.CmMerge:      "MERGE",
		api.CmCrash:      "CRASH",
		api.CmRestart:    "RESTART",
		api.CmCheck:      "CHECK",
		api.CmCut:        "CUT",
	}
}

// printReply writes the lines of one reply (P17.12).
func printReply(text *strings.Builder, r api.Reply) {
	text.WriteString(strconv.Itoa(r.Command) + " " + headText(r) + " " + codeText(r.Code))
	if r.Kind != api.CmStmt {
		for _, n := range r.Numbers {
			text.WriteString(" " + strconv.Itoa(n))
		}
		text.WriteString("\n")
		return
	}
	text.WriteString(endText(r.Result) + "\n")
	if len(r.Result.Names) == 0 {
		return
	}
	text.WriteString("| " + listText(r.Result.Names, quoted) + "\n")
	for _, row := range r.Result.Rows {
		text.WriteString("  " + listText(row, valueText) + "\n")
	}
}

func headText(r api.Reply) string {
	switch {
	case r.Kind == api.CmStmt:
		return "@" + strconv.Itoa(r.Who)
	case r.Kind > 0 && r.Kind <= api.CmCut:
		return keywords()[r.Kind]
	}
	return "?"
}

func codeText(code api.Errno) string {
	if code == api.OK {
		return "OK"
	}
	return "E" + strconv.Itoa(int(code))
}

// endText tells what a statement has come to, as far as it is not nothing.
func endText(r api.Result) string {
	text := ""
	if r.Count != 0 {
		text += " count " + strconv.Itoa(r.Count)
	}
	if r.Stamp != 0 {
		text += " stamp " + strconv.FormatUint(r.Stamp, 10)
	}
	switch r.End {
	case api.EndCommit:
		text += " commit"
	case api.EndAbort:
		text += " abort"
	}
	return text
}

// listText writes things one behind the other.
func listText[T any](list []T, write func(T) string) string {
	var words []string
	for _, x := range list {
		words = append(words, write(x))
	}
	return strings.Join(words, ", ")
}

func quoted(text string) string { return "'" + strings.ReplaceAll(text, "'", "''") + "'" }

func valueText(v api.Value) string {
	switch v.Kind {
	case api.KText:
		return quoted(v.Text)
	case api.KInt:
		return strconv.FormatInt(v.Int, 10)
	case api.KBool:
		if v.Int == 1 {
			return "TRUE"
		}
		return "FALSE"
	}
	return "NULL"
}
