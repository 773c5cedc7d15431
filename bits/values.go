package bits

import (
	"cmp"
	"slices"
	"strings"

	"strata/api"
)

// CompareValues tells which of two values is less (P1.14).
func CompareValues(a, b api.Value) int {
	return cmp.Or(cmp.Compare(a.Kind, b.Kind), cmp.Compare(a.Int, b.Int), strings.Compare(a.Text, b.Text))
}

// Compare tells which of two lists is less (P1.15).
func Compare(a, b []api.Value) int { return slices.CompareFunc(a, b, CompareValues) }

// layout says how the values of one kind are checked, laid down and read back, in keys and in rows.
type layout struct {
	check   func(v api.Value) api.Errno
	key     func(b []byte, v api.Value) []byte
	readKey func(r *reader, tag byte) api.Value
	row     func(b []byte, v api.Value) []byte
	readRow func(r *reader) api.Value
}

// layouts tells the layout of each kind, by its number.
func layouts() [4]layout {
	return [4]layout{
		api.KNull: {checkNull, nullKey, readNullKey, nullRow, readNullRow},
		api.KBool: {checkBool, boolKey, readBoolKey, boolRow, readBoolRow},
		api.KInt:  {checkInt, intKey, readIntKey, intRow, readIntRow},
		api.KText: {checkText, textKey, readTextKey, textRow, readTextRow},
	}
}

func layoutOf(k api.Kind) layout { return layouts()[k] }

// check tells the first fault of a list that is to be laid down.
func check(vals []api.Value) api.Errno {
	if len(vals) > api.MaxVals {
		return api.ErrVals
	}
	for _, v := range vals {
		if v.Kind < api.KNull || v.Kind > api.KText {
			return api.ErrValue
		}
		if e := layoutOf(v.Kind).check(v); e != api.OK {
			return e
		}
	}
	return api.OK
}

func checkNull(v api.Value) api.Errno { return refuseUnless(v.Int == 0 && v.Text == "") }

func checkBool(v api.Value) api.Errno {
	return refuseUnless((v.Int == 0 || v.Int == 1) && v.Text == "")
}

func checkInt(v api.Value) api.Errno { return refuseUnless(v.Text == "") }

func checkText(v api.Value) api.Errno {
	if v.Int == 0 && len(v.Text) > api.MaxText {
		return api.ErrLong
	}
	return refuseUnless(v.Int == 0)
}

func refuseUnless(valid bool) api.Errno {
	if !valid {
		return api.ErrValue
	}
	return api.OK
}

func boolValue(v byte) api.Value   { return api.Value{Kind: api.KBool, Int: int64(v)} }
func intValue(v int64) api.Value   { return api.Value{Kind: api.KInt, Int: v} }
func textValue(s string) api.Value { return api.Value{Kind: api.KText, Text: s} }
