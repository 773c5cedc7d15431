package engine_test

import (
	"fmt"
	"hash/fnv"
	"slices"
	"testing"

	"strata/api"
)

// plot is a few sessions' calls, played in every order of their steps.
type plot struct {
	name  string
	rows  []api.Row
	ahead func(w *watcher) // what was done ahead of all orders
	plays [][]api.Call     // by session
	ends  []string         // what it has to have come to, each in some order
	never []string         // what it must not come to
}

// stage is a plot that is being played.
type stage struct {
	*watcher
	left  [][]api.Call
	since [2]int // by session: steps since its transaction was decided, that one too
}

// run runs calls to their ends, ahead of all orders.
func (w *watcher) run(s int, calls ...api.Call) {
	for _, c := range calls {
		for w.begin(s, c); !w.goOn(s); {
		}
	}
}

// lead begins a call and makes some steps of it.
func (w *watcher) lead(s, steps int, c api.Call) {
	w.begin(s, c)
	for range steps {
		w.goOn(s)
	}
}

func (p plot) set(t *testing.T) *stage {
	c := api.Config{Slots: 8, Buckets: 1, TxSlots: 6, Sessions: len(p.plays), Clock: 5}
	s := &stage{watcher: watch(open(t, c, p.rows...), p.rows...), left: slices.Clone(p.plays)}
	if p.ahead != nil {
		p.ahead(s.watcher)
	}
	return s
}

// work tells the sessions that have something to do: a session whose transaction has ended has no calls left but a begin.
func (s *stage) work() []int {
	var all []int
	for n := range s.left {
		for s.present[n] == nil && !s.Open(n) && len(s.left[n]) > 0 && s.left[n][0].Kind != api.CallBegin && s.left[n][0].Kind != api.CallCollect {
			s.left[n] = s.left[n][1:]
		}
		if s.present[n] != nil || len(s.left[n]) > 0 {
			all = append(all, n)
		}
	}
	return all
}

// step makes a step of a session; if it has no call it is given its next one ahead of it.
func (s *stage) step(n int) {
	if s.present[n] == nil {
		s.begin(n, s.left[n][0])
		s.left[n] = s.left[n][1:]
	}
	s.goOn(n)
	for s.since[n] = s.decided(n); s.since[n] >= 6 && s.since[n] < 2+2*api.MaxDeps; s.since[n]++ {
		s.goOn(n) // two sessions never come to the third place for dependents, or to those behind it: no other can meet these steps
	}
}

// decided tells how many steps a session has made since its transaction was decided.
func (s *stage) decided(n int) int {
	tx := s.Base().Tx
	for _, id := range tx.Live() {
		info, _ := tx.Info(id)
		state, _, _ := tx.Look(id)
		if info.Session == n && info.Iso != 0 && (state == api.TxCommitted || state == api.TxAborted) {
			return s.since[n] + 1
		}
	}
	return 0
}

// state tells all that the rest of a play, and what it came to, hangs on.
func (s *stage) state() uint64 {
	hash := fnv.New64a()
	fmt.Fprint(hash, s.since)
	hash.Write([]byte(dumpBare(s.Engine)))
	for n := range s.left {
		fmt.Fprint(hash, len(s.left[n]), s.present[n] != nil)
	}
	hash.Write([]byte(s.tale()))
	return hash.Sum64()
}

// tale tells what the transactions were answered.
func (s *stage) tale() string {
	text := ""
	for _, d := range s.deals {
		text += fmt.Sprintln(d.iso, d.begin, d.end, d.fate, int(d.code))
		for _, x := range d.turns {
			text += fmt.Sprintln(x.Kind, x.Key, x.Answer)
		}
	}
	return text
}

// outcome tells what the transactions came to, in the order of their begins: committed, aborted, and by which error; open.
func (s *stage) outcome() string {
	text := ""
	for _, d := range s.deals {
		text += map[api.Fate]string{api.FOpen: "O", api.FCommitted: "C", api.FAborted: "A"}[d.fate]
		text += map[api.Errno]string{api.ErrConflict: "w", api.ErrCascade: "c", api.ErrRead: "r", api.ErrPhantom: "p"}[d.code]
	}
	return text
}

// hold looks at a moment.
func (s *stage) hold() {
	if s.Base().Misses() != 0 {
		s.t.Fatalf("P10.19: %d misses", s.Base().Misses())
	}
	rows := s.Rows()
	for i := range rows {
		if i > 0 && rows[i-1].Key == rows[i].Key {
			s.t.Fatalf("P10.6: %q comes twice", rows[i].Key)
		}
	}
	if len(s.present) == 0 {
		if fault := s.resting(); fault != "" {
			s.t.Fatal(fault)
		}
	}
}

func (p plot) retell(t *testing.T, path []int) *stage {
	s := p.set(t)
	for _, n := range path {
		s.step(n)
	}
	return s
}

// playAll plays a plot in every order, but goes on only once from moments that are alike; it tells how many moments there are, and what it came to.
func (p plot) playAll(t *testing.T) (int, map[string]int) {
	seen, ends := map[uint64]int{}, map[string]int{}
	paths := [][]int{nil}
	for len(paths) > 0 && !t.Failed() {
		path := paths[len(paths)-1]
		paths = paths[:len(paths)-1]
		for s := p.retell(t, path); ; {
			s.hold()
			state := s.state()
			if seen[state]++; seen[state] > 1 {
				break
			}
			work := s.work()
			if len(work) == 0 {
				if fault := s.judge(); fault != "" {
					t.Fatalf("%s (path %v)", fault, path)
				}
				ends[s.outcome()]++
				break
			}
			for _, n := range work[1:] {
				paths = append(paths, append(slices.Clone(path), n))
			}
			s.step(work[0])
			path = append(slices.Clone(path), work[0])
		}
	}
	return len(seen), ends
}

func TestEveryOrderOfAFewCalls(t *testing.T) {
	for _, p := range plots() {
		t.Run(p.name, func(t *testing.T) {
			t.Parallel()
			n, ends := p.playAll(t)
			t.Logf("%d moments, %v", n, ends)
			for _, e := range p.ends {
				if ends[e] == 0 {
					t.Errorf("none came to %s: %v", e, ends)
				}
			}
			for _, e := range p.never {
				if ends[e] != 0 {
					t.Errorf("some came to %s: %v", e, ends)
				}
			}
		})
	}
}

// begun lets both sessions begin ahead of all orders, and run these calls.
func begun(iso int, first, second []api.Call) func(w *watcher) {
	return func(w *watcher) {
		w.run(0, begin(iso))
		w.run(1, begin(iso))
		w.run(0, first...)
		w.run(1, second...)
	}
}

func calls(all ...api.Call) []api.Call { return all }

func plots() []plot {
	a := []api.Row{row("a", "0", 1)}
	ac := []api.Row{row("a", "0", 1), row("c", "0", 1)}
	return []plot{
		{"two update one row", a, begun(si, nil, nil), [][]api.Call{calls(update("a", "1"), commit()), calls(update("a", "2"), commit())}, []string{"CAw", "AwC", "AwAw"}[:2], []string{"CC"}},
		{"two insert one key", nil, begun(si, nil, nil), [][]api.Call{calls(insert("a", "1"), commit()), calls(insert("a", "2"), commit())}, []string{"CAw", "AwC"}, []string{"CC"}},
		{"two delete one row, as ReadCommitted", a, begun(rc, nil, nil), [][]api.Call{calls(remove("a"), commit()), calls(remove("a"), commit())}, []string{"CAw", "AwC", "CC"}, nil},
		{"a skew, as Snapshot", ac, begun(si, calls(get("a"), update("c", "1")), calls(get("c"), update("a", "1"))), [][]api.Call{calls(commit()), calls(commit())}, []string{"CC"}, nil},
		{"a skew, as RepeatableRead", ac, begun(rr, calls(get("a"), update("c", "1")), calls(get("c"), update("a", "1"))), [][]api.Call{calls(commit()), calls(commit())}, []string{"CAr", "ArC"}, []string{"CC"}},
		{"a skew of ranges, as Serializable", nil, begun(full, calls(scan("a", "d"), insert("a", "1")), calls(scan("a", "d"), insert("c", "1"))), [][]api.Call{calls(commit()), calls(commit())}, []string{"CAp", "ApC"}, []string{"CC"}},
		{"a reader beside one that commits", ac, begun(si, calls(update("a", "1"), insert("b", "1")), nil), [][]api.Call{calls(commit()), calls(scan("", ""), commit())}, []string{"CC"}, []string{"CAc"}},
		{"a reader beside one that aborts", ac, begun(si, calls(update("a", "1"), insert("b", "1")), nil), [][]api.Call{calls(abort()), calls(scan("", ""), commit())}, []string{"AC"}, []string{"AAc"}},
		{"one that reads committed, beside one that commits", ac, begun(rc, calls(update("a", "1"), remove("c")), nil), [][]api.Call{calls(commit()), calls(get("a"), get("c"), commit())}, []string{"CC"}, nil},
		{"a begin and a get beside one that commits", a, func(w *watcher) { w.run(0, begin(full), update("a", "1")) }, [][]api.Call{calls(commit()), calls(begin(full), get("a"), commit())}, []string{"CC"}, nil},
		{"a begin and a get beside one that is about to be refused", ac, func(w *watcher) {
			w.run(0, begin(full), get("c"), update("a", "1"))
			w.run(1, begin(si), update("c", "1"), commit())
			w.lead(0, 2, commit())
		}, [][]api.Call{nil, calls(begin(si), get("a"), commit())}, []string{"ArCC", "ArCAc"}, []string{"CCC"}},
		{"an insert beside a delete", a, begun(si, calls(remove("a")), nil), [][]api.Call{calls(commit()), calls(insert("a", "2"), commit())}, []string{"CC"}, []string{"CAw"}},
		{"an insert beside a delete, as ReadCommitted", a, begun(rc, calls(remove("a")), nil), [][]api.Call{calls(commit()), calls(insert("a", "2"), commit())}, []string{"CC"}, nil},
		{"a collect beside one that reads", a, func(w *watcher) {
			w.run(1, begin(si), update("a", "1"), commit())
		}, [][]api.Call{calls(collect(1)), calls(begin(si), get("a"), update("a", "2"), commit())}, []string{"CC"}, nil},
		{"two collects", a, func(w *watcher) {
			w.run(0, begin(si), update("a", "1"), commit())
			w.run(0, collect(1))
			w.run(0, begin(si), update("a", "2"), commit())
		}, [][]api.Call{calls(collect(1)), calls(collect(1))}, []string{"CC"}, nil},
	}
}
