package plan

import (
	"strata/api"
	"strata/bits"
)

func intValue(n int64) api.Value { return api.Value{Kind: api.KInt, Int: n} }

func textValue(text string) api.Value { return api.Value{Kind: api.KText, Text: text} }

func isNull(v api.Value) bool { return v.Kind == api.KNull }

// keyOf lays down values that are known to be valid, and few enough.
func keyOf(values ...api.Value) string {
	key, _ := bits.Key(values...)
	return key
}

// afterOf is the least text above all that begin with a key; no key's first byte is its last possible one.
func afterOf(key string) string {
	after, _ := bits.After(key)
	return after
}

// nameKey is the catalog's key of a table.
func nameKey(name string) string { return keyOf(intValue(0), textValue(name)) }

// checkValue tells whether a value is valid, and null or of a type.
func checkValue(v api.Value, kind api.Kind) error {
	if _, e := bits.Key(v); e != api.OK {
		return fault{e}
	}
	return faultIf(!isNull(v) && v.Kind != kind, api.ErrType)
}

// checkRow tells whether a row is one over columns, whatever these are.
func checkRow(cols []api.ColDef, row []api.Value) error {
	if len(row) != len(cols) {
		return fault{api.ErrArity}
	}
	return eachOf(row, func(i int, v api.Value) error { return checkValue(v, cols[i].Type) })
}

// rowPair lays down a row of what is known to be a table (P16.3).
func rowPair(t api.Table, row []api.Value) (api.Pair, error) {
	if len(row) != len(t.Cols) {
		return api.Pair{}, fault{api.ErrArity}
	}
	err := eachOf(row, func(i int, v api.Value) error {
		if err := checkValue(v, t.Cols[i].Type); err != nil {
			return err
		}
		return faultIf(isNull(v) && t.Cols[i].NotNull, api.ErrNotNull)
	})
	if err != nil {
		return api.Pair{}, err
	}
	key := []api.Value{intValue(t.Number)}
	for _, place := range t.Key {
		key = append(key, row[place])
	}
	data, _ := bits.Row(row...)
	p := api.Pair{Key: keyOf(key...), Data: data}
	if len(p.Key) > api.MaxKey || len(p.Data) > api.MaxData {
		return api.Pair{}, fault{api.ErrKey}
	}
	return p, nil
}

// pairRow reads what may be a row; it is one if it is laid down as just these bytes.
func pairRow(t api.Table, p api.Pair) ([]api.Value, error) {
	row, e := bits.ReadRow(p.Data)
	if e != api.OK {
		return nil, fault{api.ErrDefine}
	}
	if again, err := rowPair(t, row); err != nil || again != p {
		return nil, fault{api.ErrDefine}
	}
	return row, nil
}
