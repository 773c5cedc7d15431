package adya_test

import (
	"fmt"
	"testing"

	"strata/adya"
	"strata/api"
	"strata/engine"
)

// company is an engine and those who work with it.
type company struct {
	*maker
	*engine.Engine
	config api.Config
	levels []int
}

// call makes up what a session that is free is given.
func (c *company) call(s int) api.Call {
	if !c.Open(s) {
		return api.Call{Kind: api.CallBegin, Iso: c.levels[c.Intn(len(c.levels))]}
	}
	high := []string{"", c.key(), c.key() + "\x00"}[c.Intn(3)]
	call := api.Call{Key: c.key(), Data: string(rune('0' + c.Intn(10))), High: high}
	call.Kind = []int{api.CallGet, api.CallGet, api.CallInsert, api.CallInsert, api.CallUpdate, api.CallUpdate, api.CallUpdate, api.CallDelete, api.CallScan, api.CallScan, api.CallCommit, api.CallCommit, api.CallCommit, api.CallAbort, api.CallCollect}[c.Intn(15)]
	if call.Kind == api.CallCollect {
		call.Count = 1
	}
	return call
}

// work lets the sessions go on for a while, in an order that chance has.
func (c *company) work(turns int) {
	for range turns {
		s := c.Intn(c.config.Sessions)
		if !c.Busy(s) {
			c.Take(s)
			c.Start(s, c.call(s))
		}
		pace := c.Intn(25)
		if c.one(3) {
			pace = 1
		}
		c.Run(s, pace)
	}
}

func newCompany(m *maker) *company {
	config := api.Config{Slots: 120, Buckets: 1 + m.Intn(3), TxSlots: 20, Sessions: 2 + m.Intn(4), Clock: uint64(m.Intn(9)), Coop: m.Intn(2)}
	var rows []api.Row
	for _, key := range m.keys {
		if m.one(2) {
			rows = append(rows, api.Row{Key: key, Data: "old", Stamp: config.Clock})
		}
	}
	x, _ := engine.New(config, rows...)
	c := &company{maker: m, Engine: x, config: config}
	c.levels = [][]int{{full}, {si}, {rr}, {rc}, {si, rr, full}, {rc, si, rr, full}, {rc, full}}[m.Intn(7)]
	return c
}

// P14.15, at many moments of engines whose sessions are stepped in orders that chance has, at every level.
func TestHistoriesOfEngines(t *testing.T) {
	all := inBatches(t, 8000, func(m *maker) string {
		m.keys = m.keys[:2+m.Intn(3)]
		c := newCompany(m)
		for range 4 {
			c.work(60)
			if fault := faultOfEngine(m, c.History()); fault != "" {
				return fmt.Sprintf("levels %v: %+v: %s", c.levels, c.History(), fault)
			}
		}
		return ""
	})
	met(t, all, 500, "all are Serializable", "none is ReadCommitted", "a commit at level 1", "a commit at level 2", "a commit at level 3", "a commit at level 4", "a scan at level 4", "not PL3", "in the midst of a commit")
}

func faultOfEngine(m *maker, h api.History) string {
	if e, x, o := adya.Check(h); e != api.OK {
		return fmt.Sprintf("P14.15: Check: %d, %d, %d", e, x, o)
	}
	isFull := true
	for _, x := range h.Txns {
		if x.Fate != api.FCommitted {
			continue
		}
		isFull = isFull && x.Iso == full
		m.met[fmt.Sprint("a commit at level ", x.Iso)]++
		if x.EndOut == 0 && x.End > 0 && x.EndIn > 0 {
			m.met["in the midst of a commit"]++
		}
		for _, op := range x.Ops {
			if op.Kind == api.OScan {
				m.met[fmt.Sprint("a scan at level ", x.Iso)]++
			}
		}
	}
	if isFull {
		later, e := adya.AtEnd(h)
		good, f := adya.Meets(later, api.PL3)
		same, g := adya.Replay(h, byEnd(h)...)
		if !good || !same || e != api.OK || f != api.OK || g != api.OK {
			return fmt.Sprintf("P14.15: PL3: %v, %d, %d; replayed: %v, %d", good, e, f, same, g)
		}
		m.met["all are Serializable"]++
	}
	if hasReadCommitted(h) {
		return ""
	}
	_, e := adya.Embed(h)
	good, f := adya.Meets(h, api.PLSI)
	if !good || e != api.OK || f != api.OK {
		return fmt.Sprintf("P14.15: Embed: %d; PLSI: %v, %d", e, good, f)
	}
	m.met["none is ReadCommitted"]++
	if good, _ := adya.Meets(h, api.PL3); !good {
		m.met["not PL3"]++
	}
	return ""
}
