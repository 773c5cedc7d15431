package adya

import (
	"sort"

	"strata/api"
)

// nobody is no transaction's number.
const nobody = -1

// line is what is installed of a key, in the versions' order; the unborn one stands at place 0.
type line struct {
	key      string
	versions []installed
}

// installed is a version that its writer has left.
type installed struct {
	ver  api.Ver
	end  uint64
	dead bool
	turn int // the last place up to this one at which the key was changed; 0: none
	next int // the first place behind this one at which it is changed; 0: none
}

// lineOf draws a key's line, and finds out where the key is changed: where behind a dead version comes one that is not, or the other way round.
func lineOf(key string, list []installed) line {
	all := append([]installed{{ver: api.Ver{From: nobody}, dead: true}}, list...)
	for p := 1; p < len(all); p++ {
		all[p].turn = all[p-1].turn
		if all[p].dead != all[p-1].dead {
			all[p].turn = p
		}
	}
	for p := len(all) - 2; p >= 0; p-- {
		all[p].next = all[p+1].next
		if all[p+1].turn == p+1 {
			all[p].next = p + 1
		}
	}
	return line{key, all}
}

// upTo tells the last place with an end of at most that, the version of one transaction left aside.
func (l line) upTo(end uint64, aside int) int {
	p := sort.Search(len(l.versions)-1, func(i int) bool { return l.versions[i+1].end > end })
	if p > 0 && l.versions[p].ver.From == aside {
		p--
	}
	return p
}
