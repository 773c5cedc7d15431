package engine_test

import (
	"fmt"
	"strings"
	"testing"

	"strata/api"
	"strata/engine"
	"strata/version"
)

// turned is a config that may be, with one thing changed.
func turned(change func(c *api.Config)) api.Config {
	c := api.Config{Slots: 2, Buckets: 1, TxSlots: 1, Sessions: 1, Clock: 5}
	change(&c)
	return c
}

func TestNewRefuses(t *testing.T) {
	good := turned(func(*api.Config) {})
	long, wide := strings.Repeat("k", api.MaxKey+1), strings.Repeat("d", api.MaxData+1)
	bad := row("", "", 9)
	for _, c := range []struct {
		what string
		c    api.Config
		rows []api.Row
		e    api.Errno
	}{
		{"no slots", turned(func(c *api.Config) { c.Slots, c.Buckets, c.TxSlots, c.Sessions = 0, 0, 0, 0 }), []api.Row{bad}, api.ErrShape},
		{"too many slots", turned(func(c *api.Config) { c.Slots = api.MaxSlots + 1 }), nil, api.ErrShape},
		{"no buckets", turned(func(c *api.Config) { c.Buckets, c.TxSlots, c.Sessions, c.Coop = 0, 0, 0, -1 }), []api.Row{bad}, api.ErrBucket},
		{"too many buckets", turned(func(c *api.Config) { c.Buckets = api.MaxBuckets + 1 }), nil, api.ErrBucket},
		{"no transactions", turned(func(c *api.Config) { c.TxSlots = 0 }), []api.Row{bad}, api.ErrArg},
		{"too many transactions", turned(func(c *api.Config) { c.TxSlots = api.MaxTx + 1 }), nil, api.ErrArg},
		{"too late a clock", turned(func(c *api.Config) { c.Clock = api.MaxTime + 1 }), nil, api.ErrArg},
		{"no sessions", turned(func(c *api.Config) { c.Sessions = 0 }), []api.Row{bad}, api.ErrArg},
		{"too many sessions", turned(func(c *api.Config) { c.Sessions = api.MaxSessions + 1 }), []api.Row{bad}, api.ErrArg},
		{"a coop below 0", turned(func(c *api.Config) { c.Coop = -1 }), []api.Row{bad}, api.ErrArg},
		{"a coop that is too great", turned(func(c *api.Config) { c.Coop = api.MaxCoop + 1 }), []api.Row{bad}, api.ErrArg},
		{"an empty key", good, []api.Row{row("", "", 6)}, api.ErrKey},
		{"a long key", good, []api.Row{row(long, "", 6)}, api.ErrKey},
		{"long data", good, []api.Row{row("a", wide, 6)}, api.ErrKey},
		{"a late stamp", good, []api.Row{row("a", "", 6), bad}, api.ErrArg},
		{"a key twice", good, []api.Row{row("a", "", 1), row("a", "", 1), bad}, api.ErrArg},
		{"a key that is less", good, []api.Row{row("b", "", 1), row("a", "", 1), bad}, api.ErrArg},
		{"a key that is less and a late stamp", good, []api.Row{row("b", "", 1), row("a", wide, 9)}, api.ErrKey},
		{"an empty key behind another", good, []api.Row{row("a", "", 1), bad}, api.ErrKey},
		{"the last of many", good, []api.Row{row("a", "", 1), row("b", "", 1), row("c", "", 1), row("d", "", 6)}, api.ErrArg},
		{"more rows than slots", good, []api.Row{row("a", "", 1), row("b", "", 1), row("c", "", 1)}, api.ErrFull},
	} {
		x, e := engine.New(c.c, c.rows...)
		want(t, "P10.1: "+c.what, []any{x == nil, e}, []any{true, c.e})
	}
}

// All numbers of a config, at and beyond their bounds: the base's errors first, then the engine's.
func TestNewAtAllNumbers(t *testing.T) {
	for _, n := range strange() {
		for _, c := range []api.Config{
			turned(func(c *api.Config) { c.Slots = n }), turned(func(c *api.Config) { c.Buckets = n }), turned(func(c *api.Config) { c.TxSlots = n }),
			turned(func(c *api.Config) { c.Sessions = n }), turned(func(c *api.Config) { c.Coop = n }), turned(func(c *api.Config) { c.Clock = uint64(n) }),
		} {
			_, right := version.New(c)
			if right == api.OK && (c.Sessions < 1 || c.Sessions > 15 || c.Coop < 0 || c.Coop > 4) {
				right = api.ErrArg
			}
			x, e := engine.New(c)
			want(t, fmt.Sprintf("P10.1: New(%+v)", c), []any{x != nil, e}, []any{right == api.OK, right})
		}
	}
}

func TestNewIsEmpty(t *testing.T) {
	w := open(t, api.Config{Slots: 3, Buckets: 2, TxSlots: 2, Sessions: 15, Clock: 7, Coop: 4})
	free, limbo := w.Free()
	want(t, "P10.1: an empty one", []any{w.Accesses(), w.Commits(0), w.Rows(), free, limbo, w.Floor(), w.History(), w.Base().Misses()}, []any{0, []api.Commit{}, []api.Row{}, 3, 0, 8, api.History{}, 0})
	for s := range 15 {
		_, e := w.Take(s)
		want(t, "P10.1: a session", []any{w.Busy(s), w.Open(s), e}, []any{false, false, api.ErrState})
	}
}

// twin is a base into which the rows are brought by hand.
func twin(t *testing.T, c api.Config, rows ...api.Row) *version.Base {
	t.Helper()
	b, e := version.New(c)
	want(t, "version.New", e, api.OK)
	for _, r := range rows {
		m := b.Load(r.Stamp, r.Key, r.Data)
		for !m.Step() {
		}
		want(t, "Load", m.Code(), api.OK)
	}
	return b
}

func TestNewBringsRowsIn(t *testing.T) {
	c := api.Config{Slots: 4, Buckets: 3, TxSlots: 2, Sessions: 2, Clock: api.MaxTime}
	rows := []api.Row{row("\x00", "", 0), row("a", strings.Repeat("d", api.MaxData), api.MaxTime), row("a\x00", "x", 3), row(strings.Repeat("k", api.MaxKey), "y", 3)}
	w := open(t, c, rows...)
	b := twin(t, c, rows...)
	want(t, "P10.1: Rows", w.Rows(), rows)
	want(t, "P10.1: the base", dump(w.Base()) == dump(b), true)
	want(t, "P10.1: accesses", []int{w.Accesses(), w.Base().Accesses(), w.Base().Misses()}, []int{b.Accesses(), b.Accesses(), 0})
	want(t, "P10.1: nothing is logged", len(w.Commits(0)), 0)
	free, limbo := w.Free()
	want(t, "P10.1: Free", []int{free, limbo}, []int{0, 0})
	want(t, "P10.1: Clock", w.Floor(), api.MaxTime+1)
	rows[0].Key, rows[1].Data = "changed", "changed"
	want(t, "P0.1: what was handed in is not kept", w.Rows()[0].Key+w.History().Txns[0].Ops[0].Ver.Key, "\x00\x00")
}

// The rows that were brought in are like others: they are read, updated, deleted, and garbage then.
func TestRowsThatWereBroughtInAreRows(t *testing.T) {
	w := open(t, roomy(), row("a", "1", 3), row("b", "2", 10))
	w.do(0, begin(full))
	w.answers("P10.1", 0, scan("", ""), told(pair("a", "1"), pair("b", "2")))
	w.do(0, update("a", "3"), remove("b"), commit())
	want(t, "P10.1: Rows", w.Rows(), []api.Row{row("a", "3", 12)})
	w.answers("P10.1", 1, collect(1), api.Answer{Count: 2})
}
