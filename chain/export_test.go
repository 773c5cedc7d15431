package chain

// Head tells the word of a head without an access, so that tests can follow a list past its marks.
func (x *Index[P]) Head(bucket int) uint64 { return x.heads[bucket].Load() }
