package engine_test

import (
	"fmt"
	"maps"
	"slices"
	"sort"

	"strata/api"
)

// record is what the calls of an engine answered: promises P10.15 to P10.20 are held against it alone.
type record struct {
	rows   []api.Row
	deals  []*deal // by their begins' answers
	events int
}

// deal is a transaction as its session knows it.
type deal struct {
	iso   int
	begin uint64
	end   uint64
	fate  api.Fate
	code  api.Errno // of the call that ended it
	in    int       // the event of its begin's Start
	out   int       // the event at which the call that ended it was done; 0: not yet
	turns []*turn
}

// turn is a call with its answer.
type turn struct {
	api.Call
	api.Answer
	in, out int
}

// watcher gives calls to an engine, steps it, and keeps the record.
type watcher struct {
	*world
	record
	present map[int]*turn // by session: the call that is not taken
	of      map[int]*deal // by session: its transaction
}

func watch(w *world, rows ...api.Row) *watcher {
	return &watcher{world: w, record: record{rows: rows}, present: map[int]*turn{}, of: map[int]*deal{}}
}

func (w *watcher) begin(s int, c api.Call) {
	w.start(s, c)
	w.events++
	w.present[s] = &turn{Call: c, in: w.events}
}

// goOn makes a step of a session; when its call is done the answer goes into the record.
func (w *watcher) goOn(s int) bool {
	done, e := w.Step(s)
	if e != api.OK {
		w.t.Fatalf("Step(%d): %d", s, e)
	}
	if !done {
		return false
	}
	x := w.present[s]
	w.events++
	x.Answer, x.out = w.take(s), w.events
	delete(w.present, s)
	w.put(s, x)
	return true
}

// put puts a call that is done into the record.
func (w *watcher) put(s int, x *turn) {
	d := w.of[s]
	switch {
	case x.Kind == api.CallCollect:
		return
	case x.Kind == api.CallBegin:
		if x.Code == api.OK {
			w.of[s] = &deal{iso: x.Iso, begin: x.Stamp, in: x.in}
			w.deals = append(w.deals, w.of[s])
		}
		return
	}
	d.turns = append(d.turns, x)
	if w.Open(s) {
		return
	}
	d.fate, d.code, d.out = api.FAborted, x.Code, x.out
	if x.Kind == api.CallCommit && x.Code == api.OK {
		d.fate, d.end = api.FCommitted, x.Stamp
	}
	delete(w.of, s)
}

// writes tells whether a call is an insert, update or delete.
func (x *turn) writes() bool { return x.Kind >= api.CallInsert && x.Kind <= api.CallDelete }

// wrote tells whether a call has written.
func (x *turn) wrote() bool { return x.writes() && x.Code == api.OK }

// plain is a plain map.
type plain map[string]api.Row

// apply puts what a call has written into the map.
func (p plain) apply(x *turn, stamp uint64) {
	switch {
	case !x.wrote():
	case x.Kind == api.CallDelete:
		delete(p, x.Key)
	default:
		p[x.Key] = row(x.Key, x.Data, stamp)
	}
}

// told tells the rows of the map, by key.
func (p plain) told() []api.Row {
	var all []api.Row
	for _, key := range slices.Sorted(maps.Keys(p)) {
		all = append(all, p[key])
	}
	return all
}

// answer is what a call gets on the map, if it does not end its transaction.
func (p plain) answer(c api.Call) api.Answer {
	r, there := p[c.Key]
	switch {
	case c.Kind == api.CallScan:
		var all []api.Pair
		for _, r := range p.told() {
			if r.Key >= c.Key && (c.High == "" || r.Key < c.High) {
				all = append(all, pair(r.Key, r.Data))
			}
		}
		return told(all...)
	case c.Kind == api.CallInsert && there:
		return refused(api.ErrDuplicate)
	case c.Kind == api.CallInsert:
		return api.Answer{}
	case !there:
		return refused(api.ErrNotFound)
	case c.Kind == api.CallGet:
		return told(pair(r.Key, r.Data))
	}
	return api.Answer{}
}

// fits tells whether a call was answered as on the map.
func (p plain) fits(x *turn) bool {
	a := p.answer(x.Call)
	return a.Code == x.Code && slices.Equal(a.Rows, x.Rows)
}

// committed tells those that have committed, by their ends.
func (r *record) committed() []*deal {
	var all []*deal
	for _, d := range r.deals {
		if d.fate == api.FCommitted {
			all = append(all, d)
		}
	}
	sort.Slice(all, func(i, j int) bool { return all[i].end < all[j].end })
	return all
}

// at is the plain map at a timestamp.
func (r *record) at(stamp uint64) plain {
	p := plain{}
	for _, row := range r.rows {
		p[row.Key] = row
	}
	for _, d := range r.committed() {
		if d.end <= stamp {
			for _, x := range d.turns {
				p.apply(x, d.end)
			}
		}
	}
	return p
}

// played tells where the calls of a transaction, one behind the other on a map, get another answer than they got.
func (d *deal) played(p plain) string {
	for _, x := range d.turns {
		if x.Kind == api.CallCommit {
			break
		}
		if !p.fits(x) {
			return fmt.Sprintf("%+v was answered %+v, the map answers %+v", x.Call, x.Answer, p.answer(x.Call))
		}
		p.apply(x, d.end)
	}
	return ""
}

// keysOf tells the keys on which a transaction has written.
func (d *deal) keysOf() map[string]bool {
	all := map[string]bool{}
	for _, x := range d.turns {
		if x.wrote() {
			all[x.Key] = true
		}
	}
	return all
}

// judge tells what of P10.15, P10.16, P10.18 and P10.20 does not hold of a record; "": nothing.
func (r *record) judge() string {
	for _, d := range r.deals {
		fault := ""
		switch {
		case d.fate == api.FCommitted && d.iso == rc:
			fault = r.readsCommitted(d)
		case d.fate == api.FCommitted:
			fault = r.snapshot(d)
		case d.fate == api.FAborted:
			fault = r.reason(d)
		}
		if fault != "" {
			return fmt.Sprintf("level %d, begin %d, end %d: %s", d.iso, d.begin, d.end, fault)
		}
	}
	return ""
}

// snapshot is P10.15 and P10.16.
func (r *record) snapshot(d *deal) string {
	if fault := d.played(r.at(d.begin)); fault != "" {
		return "P10.16: " + fault
	}
	if d.iso == full {
		if fault := d.played(r.at(d.end - 1)); fault != "" {
			return "P10.15: " + fault
		}
	}
	for _, other := range r.committed() {
		if other == d || other.end < d.begin || other.end > d.end {
			continue
		}
		for key := range other.keysOf() {
			if d.keysOf()[key] {
				return fmt.Sprintf("P10.16: %q was written between by the one that ended at %d", key, other.end)
			}
		}
	}
	return ""
}

// readsCommitted is P10.20: for each call the least timestamp that fits is taken.
func (r *record) readsCommitted(d *deal) string {
	var own []*turn
	last := uint64(0)
	for _, x := range d.turns {
		if x.Kind == api.CallCommit {
			break
		}
		stamps := []uint64{last}
		low, high := last, uint64(1<<63)
		for _, other := range r.committed() {
			commit := other.turns[len(other.turns)-1]
			if commit.out < x.in {
				low = max(low, other.end)
			}
			if commit.in > x.out {
				high = min(high, other.end)
			}
			stamps = append(stamps, other.end)
		}
		slices.Sort(stamps)
		fit := false
		for _, stamp := range stamps {
			if stamp < low || stamp >= high || fit {
				continue
			}
			p := r.at(stamp)
			for _, y := range own {
				p.apply(y, d.end)
			}
			if p.fits(x) {
				fit, last = true, stamp
			}
		}
		if !fit {
			return fmt.Sprintf("P10.20: %+v was answered %+v: no timestamp from %d on, below %d, fits", x.Call, x.Answer, low, high)
		}
		own = append(own, x)
	}
	return ""
}

// beside tells whether two transactions were at work at the same time.
func (d *deal) beside(other *deal) bool {
	return d != other && (d.out == 0 || other.in < d.out) && (other.out == 0 || d.in < other.out)
}

// reason is P10.18.
func (r *record) reason(d *deal) string {
	last := d.turns[len(d.turns)-1]
	for _, other := range r.deals {
		if !d.beside(other) {
			continue
		}
		for _, x := range other.turns {
			switch {
			case !x.writes() || x.in > last.out:
			case d.code == api.ErrConflict && x.Key == last.Key:
				return ""
			case d.code == api.ErrCascade && other.fate == api.FAborted:
				return ""
			case d.code == api.ErrRead && d.iso >= rr, d.code == api.ErrPhantom && d.iso == full:
				return ""
			}
		}
	}
	switch d.code {
	case api.ErrConflict, api.ErrCascade, api.ErrRead, api.ErrPhantom:
		return fmt.Sprintf("P10.18: %+v ended it with %d, without reason", last.Call, d.code)
	case api.OK:
		if last.Kind != api.CallAbort {
			return fmt.Sprintf("P10.3: %+v ended it", last.Call)
		}
	}
	return ""
}

// resting is P10.17: what holds of an engine in which no call is at work.
func (w *watcher) resting() string {
	if a, b := w.Rows(), w.at(1<<63).told(); !slices.Equal(a, b) {
		return fmt.Sprintf("P10.17: the rows are %v, want %v", a, b)
	}
	log := map[uint64][]api.Write{}
	stamps := map[string]uint64{}
	for _, c := range w.Commits(0) {
		if log[c.Stamp] != nil {
			return fmt.Sprintf("P10.17: the log has two entries of %d", c.Stamp)
		}
		log[c.Stamp] = c.Writes
		for _, x := range c.Writes {
			if stamps[x.Key] >= c.Stamp {
				return fmt.Sprintf("P10.17: %q of %d stands behind that of %d", x.Key, c.Stamp, stamps[x.Key])
			}
			stamps[x.Key] = c.Stamp
		}
	}
	for _, d := range w.committed() {
		if right := w.net(d); !slices.Equal(log[d.end], right) {
			return fmt.Sprintf("P10.17: the entry of %d is %v, want %v", d.end, log[d.end], right)
		}
		delete(log, d.end)
	}
	if len(log) > 0 {
		return fmt.Sprintf("P10.17: the log has %v of no transaction", log)
	}
	return ""
}

// net tells what a commit has changed, by the maps ahead of it and behind it.
func (r *record) net(d *deal) []api.Write {
	old, now := r.at(d.end-1), r.at(d.end)
	var writes []api.Write
	for _, key := range slices.Sorted(maps.Keys(d.keysOf())) {
		_, was := old[key]
		if x, is := now[key]; is {
			writes = append(writes, put(key, x.Data))
		} else if was {
			writes = append(writes, del(key))
		}
	}
	return writes
}
