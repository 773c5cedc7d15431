package engine_test

import (
	"fmt"
	"math/rand"
	"testing"

	"strata/api"
)

// chance is where made-up calls come from.
type chance struct {
	*rand.Rand
	keys []string
}

func (c chance) key() string { return c.keys[c.Intn(len(c.keys))] }

func (c chance) data() string { return string(rune('0' + c.Intn(10))) }

// bounds makes up the bounds of a scan.
func (c chance) bounds() (low, high string) {
	if c.Intn(2) == 0 {
		low = c.key()
	}
	switch c.Intn(3) {
	case 0:
		high = c.key()
	case 1:
		high = c.key() + "\x00"
	}
	return low, high
}

// call makes up a call that a session may be given.
func (c chance) call(open bool, buckets int, levels []int) api.Call {
	switch {
	case c.Intn(20) == 0:
		return collect(1 + c.Intn(buckets))
	case !open:
		return begin(levels[c.Intn(len(levels))])
	}
	switch c.Intn(16) {
	case 0, 1:
		return get(c.key())
	case 2, 3, 4:
		return insert(c.key(), c.data())
	case 5, 6, 7:
		return update(c.key(), c.data())
	case 8, 9:
		return remove(c.key())
	case 10, 11:
		return scan(c.bounds())
	case 12:
		return abort()
	}
	return commit()
}

// burst is how many steps a session makes in one go: in the midst of its commit the others are to meet it.
func (c chance) burst(x *client) int {
	if x.tx != nil {
		if state, _, _ := x.base.Tx.Look(x.tx.id); state == api.TxPreparing {
			return c.Intn(40) / 39
		}
	}
	return 1 + c.Intn(30)
}

// someKeys are keys of which not all have the height 1.
func someKeys() []string { return []string{"a", "c", "zz", "q", "h\x00", "b"} }

// config makes up an engine: one in which something gets full, or one with room, in which sessions are in each other's way instead.
func (c chance) config() api.Config {
	x := api.Config{Slots: 6 + c.Intn(20), Buckets: 1 + c.Intn(3), TxSlots: 2 + c.Intn(6), Sessions: 2 + c.Intn(3), Clock: uint64(c.Intn(12)), Coop: c.Intn(3)}
	switch c.Intn(8) {
	case 0, 1:
		x.Clock = api.MaxTime - uint64(c.Intn(60))
	case 2, 3, 4, 5:
		x.Slots, x.TxSlots, x.Sessions = 60, 20, 4
	}
	return x
}

// someRows makes up rows that a config may be given.
func (c chance) someRows(x api.Config) []api.Row {
	var rows []api.Row
	for _, key := range []string{"a", "b", "c", "h\x00", "q", "zz"} {
		if c.Intn(3) == 0 && len(rows) < x.Slots {
			rows = append(rows, row(key, c.data(), uint64(c.Int63n(int64(min(x.Clock, 1<<40))+1))))
		}
	}
	return rows
}

// Each step of each session is held against the chapter's lines, with the other sessions' steps between, in orders that chance has.
func TestEveryStepByTheLines(t *testing.T) {
	const batches = 8
	met := make([]map[string]int, batches)
	t.Run("batches", func(t *testing.T) {
		for batch := range batches {
			met[batch] = map[string]int{}
			t.Run(fmt.Sprint(batch), func(t *testing.T) {
				t.Parallel()
				for seed := range int64(50) {
					playByTheLines(t, seed*batches+int64(batch), met[batch])
				}
			})
		}
	})
	all := map[string]int{}
	for _, part := range met {
		for line, n := range part {
			all[line] += n
		}
	}
	t.Log(all)
	for _, line := range linesToMeet() {
		if all[line] == 0 {
			t.Errorf("no run has met: %s", line)
		}
	}
}

// linesToMeet are what the runs have to have come to.
func linesToMeet() []string {
	all := []string{
		"a begin is refused: 63", "a begin is refused: 61", "a begin frees a record", "a begin has made room", "no end is drawn: 61",
		"kind 2 answers 0", "kind 2 answers 104", "kind 3 answers 0", "kind 3 answers 105", "kind 4 answers 0", "kind 4 answers 104", "kind 5 answers 0", "kind 5 answers 104", "kind 6 answers 0",
		"kind 3 ends with 21", "kind 4 ends with 21", "kind 3 ends with 71", "kind 4 ends with 71", "kind 5 ends with 71",
		"kind 4 of its own", "kind 5 of its own", "no net writes", "a commit waits", "a commit ends by Quit",
		"a cascade at a commit's end",
		"level 3: the check ends with 90", "level 4: the check ends with 90", "level 4: the check ends with 91",
		"a sweep is refused: 63", "a sweep is refused: 61", "a collect is refused: 63", "a collect is refused: 61", "a collect unlinks", "the hand goes round",
	}
	for iso := 1; iso <= 4; iso++ {
		all = append(all, fmt.Sprint("level ", iso, " commits"))
	}
	return all
}

func playByTheLines(t *testing.T, seed int64, met map[string]int) {
	c := chance{rand.New(rand.NewSource(seed)), someKeys()}
	config := c.config()
	if c.keys = c.keys[:1+c.Intn(len(c.keys))]; config.TxSlots == 20 {
		c.keys = c.keys[:1+len(c.keys)/3]
	}
	p := newPair(t, config, c.someRows(config)...)
	defer p.leave()
	p.m.met = met
	left := 36
	for left > 0 || p.anyBusy() {
		s := c.Intn(config.Sessions)
		if !p.Busy(s) {
			if left == 0 {
				continue
			}
			left--
			p.begin(s, c.call(p.Open(s), config.Buckets, []int{1, 2, 3, 4, 4}))
		}
		for range c.burst(p.m.clients[s]) {
			if p.goOn(s) {
				p.end(s)
				break
			}
		}
	}
	want(t, "P10.19: Misses", p.Base().Misses(), 0)
}

// anyBusy tells whether a session has a call that is not done.
func (w *world) anyBusy() bool {
	for s := range api.MaxSessions {
		if w.Busy(s) {
			return true
		}
	}
	return false
}
