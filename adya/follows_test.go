package adya_test

import (
	"fmt"
	"slices"
	"testing"

	"strata/adya"
	"strata/api"
)

// P14.12 to P14.14 on many histories: what they say is asked of the program's answers alone.
func TestWhatFollows(t *testing.T) {
	all := inBatches(t, 60000, func(m *maker) string {
		h := m.history(6)
		for _, fault := range []string{faultOfSerial(m, h), faultOfGrades(m, h), faultOfSnapshots(m, h), faultOfLines(m, h)} {
			if fault != "" {
				return fmt.Sprintf("%+v: %s", h, fault)
			}
		}
		return ""
	})
	met(t, all, 1000, "P14.12", "P14.13", "P14.13: searched", "P14.14", "P14.12: against the ends")
	met(t, all, 300, "P14.12: of six", "P14.13: of six", "P14.14: of six")
	met(t, all, 50, "P14.13: with a cycle")
}

func phenomena(h api.History) []api.Phen {
	list, _ := adya.Phenomena(h)
	return list
}

func faultOfSerial(m *maker, h api.History) string {
	order, e := adya.Serial(h)
	if shown := phenomena(h); e != api.OK || slices.Contains(shown, api.G1a) || slices.Contains(shown, api.G1b) {
		return ""
	}
	if same, e := adya.Replay(h, order...); !same || e != api.OK {
		return fmt.Sprintf("P14.12: %v: %v, %d", order, same, e)
	}
	if list, _ := adya.Edges(h); len(list) > 1 {
		m.met["P14.12"]++
	}
	if same, _ := adya.Replay(h, byEnd(h)...); !same {
		m.met["P14.12: against the ends"]++
	}
	if len(order) == 6 {
		m.met["P14.12: of six"]++
	}
	return ""
}

func faultOfGrades(m *maker, h api.History) string {
	var has [api.PL3 + 1]bool
	for g := api.PL1; g <= api.PL3; g++ {
		has[g], _ = adya.Meets(h, g)
	}
	if has[api.PL3] && !has[api.PL299] || has[api.PL299] && !has[api.PL2] || has[api.PL2] && !has[api.PL1] || has[api.PLSI] && !has[api.PL2] {
		return fmt.Sprintf("P14.13: %v", has)
	}
	return ""
}

// looksAtBegin tells whether the scans of all that have committed look at the begin.
func looksAtBegin(h api.History) bool {
	for t, x := range h.Txns {
		for _, op := range x.Ops {
			if plainCommitted(h, t) && op.Kind == api.OScan && op.At != x.Begin {
				return false
			}
		}
	}
	return true
}

func hasReadCommitted(h api.History) bool {
	return slices.ContainsFunc(h.Txns, func(x api.HTxn) bool { return x.Fate == api.FCommitted && x.Iso == rc })
}

func faultOfSnapshots(m *maker, h api.History) string {
	if _, e := adya.Embed(h); e != api.OK || hasReadCommitted(h) || !looksAtBegin(h) {
		return ""
	}
	shown := phenomena(h)
	for _, p := range []api.Phen{api.G0, api.G1a, api.G1b, api.G1c, api.GSIa, api.GSIb} {
		if slices.Contains(shown, p) {
			return fmt.Sprintf("P14.13: Embed is OK, and yet %v", shown)
		}
	}
	n := len(byEnd(h))
	if list, _ := adya.Edges(h); len(list) > 1 {
		m.met["P14.13"]++
	}
	if n == 6 {
		m.met["P14.13: of six"]++
	}
	if _, e := adya.Serial(h); e == api.ErrCycle {
		m.met["P14.13: with a cycle"]++
	}
	if n > api.MaxSearch {
		return ""
	}
	m.met["P14.13: searched"]++
	if _, e := adya.Search(h); e != api.OK {
		return fmt.Sprintf("P14.13: Embed is OK, and yet Search: %d", e)
	}
	return ""
}

func faultOfLines(m *maker, h api.History) string {
	order, last := byEnd(h), uint64(0)
	for _, t := range order {
		if h.Txns[t].Begin < last {
			return ""
		}
		last = h.Txns[t].End
	}
	if same, e := adya.Replay(h, order...); !same || e != api.OK || !looksAtBegin(h) {
		return ""
	}
	for g := api.PL1; g <= api.PL3; g++ {
		if good, e := adya.Meets(h, g); !good || e != api.OK {
			return fmt.Sprintf("P14.14: %d: %v, %d", g, good, e)
		}
	}
	least, e := adya.Serial(h)
	if same, f := adya.Replay(h, least...); !same || e != api.OK || f != api.OK {
		return fmt.Sprintf("P14.14: %v, %d: %v, %d", least, e, same, f)
	}
	if list, _ := adya.Edges(h); len(list) > 1 {
		m.met["P14.14"]++
	}
	if len(order) == 6 {
		m.met["P14.14: of six"]++
	}
	return ""
}
