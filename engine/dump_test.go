package engine_test

import (
	"fmt"
	"reflect"
	"runtime"
	"slices"
	"strconv"
	"strings"
	"sync"
)

// dumper writes down all that things hold, in the packages below too: two runs that are dumped alike go on alike. Counts of accesses and locks are left out.
type dumper struct {
	text []byte
	seen map[uintptr]int // pointers that were met, by the order in which they were
	bare bool            // the engine's record of what was done is left out, too
}

func dump(things ...any) string { return dumpBy(&dumper{}, things...) }

// dumpBare leaves out what the engine only tells, and does not go on by.
func dumpBare(things ...any) string { return dumpBy(&dumper{bare: true}, things...) }

func dumpBy(d *dumper, things ...any) string {
	d.seen = map[uintptr]int{}
	for _, x := range things {
		d.value(reflect.ValueOf(x))
		d.text = append(d.text, '\n')
	}
	return string(d.text)
}

func (d *dumper) value(v reflect.Value) {
	switch v.Kind() {
	case reflect.Invalid:
		d.text = append(d.text, '-')
	case reflect.Bool:
		d.text = strconv.AppendBool(d.text, v.Bool())
	case reflect.Int, reflect.Int8, reflect.Int16, reflect.Int32, reflect.Int64:
		d.text = strconv.AppendInt(d.text, v.Int(), 10)
	case reflect.Uint, reflect.Uint8, reflect.Uint16, reflect.Uint32, reflect.Uint64:
		d.text = strconv.AppendUint(d.text, v.Uint(), 10)
	case reflect.String:
		d.text = strconv.AppendQuote(d.text, v.String())
	case reflect.Func:
		if !v.IsNil() {
			d.text = append(d.text, runtime.FuncForPC(v.Pointer()).Name()...)
		}
	case reflect.Interface:
		d.value(v.Elem())
	case reflect.Pointer:
		d.pointer(v)
	case reflect.Array, reflect.Slice:
		for i := range v.Len() {
			d.value(v.Index(i))
		}
	case reflect.Struct:
		d.fields(v)
	case reflect.Map:
		d.entries(v)
	default:
		panic(fmt.Sprint("no way to write down a ", v.Type()))
	}
	d.text = append(d.text, ' ')
}

func (d *dumper) pointer(v reflect.Value) {
	if v.IsNil() {
		d.text = append(d.text, '-')
		return
	}
	if n, ok := d.seen[v.Pointer()]; ok {
		d.text = append(d.text, '#')
		d.text = strconv.AppendInt(d.text, int64(n), 10)
		return
	}
	d.seen[v.Pointer()] = len(d.seen)
	d.value(v.Elem())
}

// entries writes a map down by its keys' own order: that of the map is by chance.
func (d *dumper) entries(v reflect.Value) {
	var all []string
	for _, key := range v.MapKeys() {
		one := &dumper{seen: d.seen, bare: d.bare}
		one.value(key)
		one.value(v.MapIndex(key))
		all = append(all, string(one.text))
	}
	slices.Sort(all)
	d.text = append(d.text, strings.Join(all, ",")...)
}

func (d *dumper) fields(v reflect.Value) {
	for _, i := range fieldsOf(layout{v.Type(), d.bare}) {
		d.value(v.Field(i))
	}
}

// layout is a struct, written down with all or without the record.
type layout struct {
	reflect.Type
	bare bool
}

// layouts keeps what fieldsOf found out.
var layouts sync.Map

// fieldsOf tells which fields of a struct are written down.
func fieldsOf(t layout) []int {
	if known, ok := layouts.Load(t); ok {
		return known.([]int)
	}
	var all []int
	for i := range t.NumField() {
		switch name := t.Field(i).Name; {
		case name == "accesses", name == "misses", name == "_", t.PkgPath() == "sync":
		case t.bare && (name == "book" || name == "came"):
		default:
			all = append(all, i)
		}
	}
	layouts.Store(t, all)
	return all
}
