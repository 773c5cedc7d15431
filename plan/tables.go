package plan

import (
	"slices"

	"strata/api"
	"strata/bits"
	"strata/tongue"
)

// notNull is what a column's byte in the catalog has beside its type, if it is NotNull (P16.2).
const notNull = 4

func isStatement(s api.Stmt) bool {
	return tongue.Valid(api.Command{Kind: api.CmStmt, Stmt: s})
}

func isName(name string) bool { return len(name) >= 1 && len(name) <= api.MaxName }

// isList tells whether a list has entries, not too many, all of them good.
func isList[T any](list []T, most int, good func(T) bool) bool {
	return len(list) >= 1 && len(list) <= most && !slices.ContainsFunc(list, func(entry T) bool { return !good(entry) })
}

// repeats tells whether an entry of a list stands ahead of it, too.
func repeats[T comparable](list []T, i int) bool { return slices.Contains(list[:i], list[i]) }

// isTable tells whether a definition is one.
func isTable(t api.Table) bool {
	if !isName(t.Name) || t.Number < 1 || !isList(t.Cols, api.MaxList, isColumn) {
		return false
	}
	isPlace := func(place int) bool { return place >= 0 && place < len(t.Cols) && t.Cols[place].NotNull }
	return isList(t.Key, api.MaxKeyCols, isPlace) && unlike(namesOf(t.Cols)) && unlike(t.Key)
}

func isColumn(c api.ColDef) bool { return isName(c.Name) && isType(c.Type) }

func isType(k api.Kind) bool { return k == api.KBool || k == api.KInt || k == api.KText }

func unlike[T comparable](list []T) bool {
	for i := range list {
		if repeats(list, i) {
			return false
		}
	}
	return true
}

func namesOf(cols []api.ColDef) []string {
	names := make([]string, len(cols))
	for i, c := range cols {
		names[i] = c.Name
	}
	return names
}

// placeOf tells where the first column of a name stands; -1: nowhere.
func placeOf(name string, cols []api.ColDef) int {
	return slices.IndexFunc(cols, func(c api.ColDef) bool { return c.Name == name })
}

// define makes the table of a statement that is one.
func define(s api.Stmt, number int64) (api.Table, error) {
	switch {
	case s.Kind != api.StCreate:
		return api.Table{}, fault{api.ErrTree}
	case number < 1:
		return api.Table{}, fault{api.ErrArg}
	case !unlike(namesOf(s.Cols)):
		return api.Table{}, fault{api.ErrColumn}
	case len(s.Key) > api.MaxKeyCols || !unlike(s.Key):
		return api.Table{}, fault{api.ErrPrimary}
	}
	t := api.Table{Name: s.Table, Number: number, Cols: slices.Clone(s.Cols)}
	for _, name := range s.Key {
		place := placeOf(name, t.Cols)
		if place < 0 {
			return api.Table{}, fault{api.ErrPrimary}
		}
		t.Cols[place].NotNull = true
		t.Key = append(t.Key, place)
	}
	return t, nil
}

func encodeTable(t api.Table) (api.Pair, error) {
	if !isTable(t) {
		return api.Pair{}, fault{api.ErrDefine}
	}
	data := bits.Uvarint(uint64(t.Number)) + bits.Uvarint(uint64(len(t.Cols)))
	for _, c := range t.Cols {
		name, _ := bits.Blob(c.Name)
		kind := byte(c.Type)
		if c.NotNull {
			kind += notNull
		}
		data += name + string([]byte{kind})
	}
	data += bits.Uvarint(uint64(len(t.Key)))
	for _, place := range t.Key {
		data += bits.Uvarint(uint64(place))
	}
	if len(data) > api.MaxData {
		return api.Pair{}, fault{api.ErrLong}
	}
	return api.Pair{Key: nameKey(t.Name), Data: data}, nil
}

// decodeTable reads what may be a table; it is one if it is laid down as just these bytes.
func decodeTable(p api.Pair) (api.Table, error) {
	if len(p.Data) > api.MaxData {
		return api.Table{}, fault{api.ErrDefine}
	}
	t, err := caught(func() api.Table { return readTable(p) })
	if err != nil {
		return api.Table{}, err
	}
	if again, err := encodeTable(t); err != nil || again != p {
		return api.Table{}, fault{api.ErrDefine}
	}
	return t, nil
}

// bytesReader goes along the bytes of a definition, and gives up where they are none.
type bytesReader struct {
	text string
	at   int
}

func (r *bytesReader) number() uint64 {
	v, next, e := bits.ReadUvarint(r.text, r.at)
	return taken(r, v, next, e)
}

func (r *bytesReader) blob() string {
	b, next, e := bits.ReadBlob(r.text, r.at)
	return taken(r, b, next, e)
}

// taken goes on behind what was read.
func taken[T any](r *bytesReader, v T, next int, e api.Errno) T {
	if e != api.OK {
		panic(api.ErrDefine)
	}
	r.at = next
	return v
}

func (r *bytesReader) column() api.ColDef {
	name, kind := r.blob(), r.number()
	return api.ColDef{Name: name, Type: api.Kind(kind % notNull), NotNull: kind >= notNull}
}

func readTable(p api.Pair) api.Table {
	key, e := bits.ReadKey(p.Key)
	if e != api.OK || len(key) == 0 {
		panic(api.ErrDefine)
	}
	r := &bytesReader{text: p.Data}
	t := api.Table{Name: key[len(key)-1].Text, Number: int64(r.number())}
	for range r.number() {
		t.Cols = append(t.Cols, r.column())
	}
	for range r.number() {
		t.Key = append(t.Key, int(r.number()))
	}
	return t
}
