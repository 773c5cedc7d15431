package image

import (
	"slices"

	"strata/api"
)

// Merge makes one pair of two that lie side by side (P12.7).
func (im *Image) Merge(at int) api.Errno {
	if im.missing() {
		return api.ErrNil
	}
	if at < 0 || at >= len(im.pairs)-1 {
		return api.ErrMerge
	}
	first, second := im.pairs[at], im.pairs[at+1]
	data := slices.Concat(im.left(first), im.left(second))
	switch {
	case len(data) > api.MaxPairData:
		return api.ErrMerge
	case im.numbersLeft() == 0:
		return api.ErrNumbers
	}
	one := im.newPair(first.Lo)
	for _, d := range data {
		im.lay(one, d)
	}
	one.Hi = second.Hi // above its last datum's Begin, if what stood there is gone
	im.pairs = slices.Replace(im.pairs, at, at+2, one)
	return api.OK
}
