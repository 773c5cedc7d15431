package bits

import "strata/api"

// Of the kinds of a row, each in two bits.
const (
	kindBits     = 2
	kindsInAByte = 4
)

// Row tells the bytes of a row (P1.19).
func Row(vals ...api.Value) (string, api.Errno) {
	if e := check(vals); e != api.OK {
		return "", e
	}
	b := make([]byte, 1+kindBytes(len(vals)))
	b[0] = byte(len(vals))
	for i, v := range vals {
		b[1+i/kindsInAByte] |= byte(v.Kind) << kindShift(i)
		b = layoutOf(v.Kind).row(b, v)
	}
	return string(b), api.OK
}

// ReadRow reads what Row told (P1.20).
func ReadRow(s string) ([]api.Value, api.Errno) {
	vals, _, e := read(s, 0, (*reader).row)
	return vals, e
}

// kindBytes tells how many bytes the kinds of so many values take.
func kindBytes(values int) int { return (values + kindsInAByte - 1) / kindsInAByte }

func kindShift(i int) int { return i % kindsInAByte * kindBits }

func (r *reader) row() []api.Value {
	var vals []api.Value
	for _, k := range r.kinds() {
		vals = append(vals, layoutOf(k).readRow(r))
	}
	if r.left() > 0 {
		panic(api.ErrTail)
	}
	return vals
}

func (r *reader) kinds() []api.Kind {
	count := int(r.nextByte())
	if count > api.MaxVals {
		panic(api.ErrVals)
	}
	s := r.nextBytes(kindBytes(count))
	kinds := make([]api.Kind, kindsInAByte*len(s))
	for i := range kinds {
		kinds[i] = api.Kind(s[i/kindsInAByte] >> kindShift(i) & (1<<kindBits - 1))
		if i >= count && kinds[i] != 0 {
			panic(api.ErrTag)
		}
	}
	return kinds[:count]
}

func nullRow(b []byte, _ api.Value) []byte { return b }

func readNullRow(_ *reader) api.Value { return api.Value{} }

func boolRow(b []byte, v api.Value) []byte { return append(b, byte(v.Int)) }

func readBoolRow(r *reader) api.Value {
	b := r.nextByte()
	if b > 1 {
		panic(api.ErrTag)
	}
	return boolValue(b)
}

func intRow(b []byte, v api.Value) []byte { return laySvarint(b, v.Int) }

func readIntRow(r *reader) api.Value { return intValue(r.svarint()) }

func textRow(b []byte, v api.Value) []byte {
	return append(layUvarint(b, uint64(len(v.Text))), v.Text...)
}

func readTextRow(r *reader) api.Value { return textValue(r.blob(api.MaxText)) }
