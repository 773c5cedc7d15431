// Package valid is whether what a transaction read is still so at its end: see chapter 9.
package valid

import "strata/api"

// Range is keys from Low on, up to High (not taken in; "": no bound).
type Range struct {
	Low  string
	High string
}

func (r Range) holds(key string) bool {
	return r.Low <= key && (r.High == "" || key < r.High)
}

// versions and ranges give the two kinds of things names of their own: one struct can't embed two of one generic type.
type (
	versions struct{ once[int] }
	ranges   struct{ once[Range] }
)

// Sees is a set of versions that a transaction has seen, and of ranges that it has looked through.
type Sees struct {
	versions
	ranges
}

// NewSees makes an empty one.
func NewSees() *Sees { return &Sees{} }

// Read notes versions; api.ErrLong above api.MaxIntents, with nothing noted (P9.1).
func (s *Sees) Read(slots ...int) api.Errno {
	if s == nil {
		return api.ErrNil
	}
	return s.versions.add(slots...)
}

// Look notes a range, likewise.
func (s *Sees) Look(low, high string) api.Errno {
	if s == nil {
		return api.ErrNil
	}
	return s.ranges.add(Range{low, high})
}

// Slots tells the versions, each once, in the order in which they were noted first (P9.2).
func (s *Sees) Slots() []int {
	if s == nil {
		return nil
	}
	return s.versions.all()
}

// Ranges tells the ranges, each once, in that order.
func (s *Sees) Ranges() []Range {
	if s == nil {
		return nil
	}
	return s.ranges.all()
}

// Has tells whether a version was noted.
func (s *Sees) Has(slot int) bool { return s != nil && s.versions.has(slot) }
