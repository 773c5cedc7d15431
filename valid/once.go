package valid

import (
	"maps"
	"slices"

	"strata/api"
)

// once holds things, each once, in the order in which they came first; by the map they are found again.
type once[T comparable] struct {
	list  []T
	known map[T]struct{}
}

func (o *once[T]) has(thing T) bool {
	_, ok := o.known[thing]
	return ok
}

// add takes in what is new of some things: all of it or, if there is no room for all, nothing.
func (o *once[T]) add(things ...T) api.Errno {
	var fresh once[T]
	for _, x := range things {
		if !o.has(x) {
			fresh.put(x)
		}
		if len(o.list)+len(fresh.list) > api.MaxIntents {
			return api.ErrLong
		}
	}
	for _, x := range fresh.list {
		o.put(x)
	}
	return api.OK
}

func (o *once[T]) put(thing T) {
	if o.has(thing) {
		return
	}
	if o.known == nil {
		o.known = map[T]struct{}{}
	}
	o.known[thing] = struct{}{}
	o.list = append(o.list, thing)
}

// all tells the things, in memory of its own.
func (o *once[T]) all() []T { return slices.Clone(o.list) }

// copied is the same things in memory of their own: what comes to one does not come to the other.
func (o *once[T]) copied() once[T] { return once[T]{o.all(), maps.Clone(o.known)} }
