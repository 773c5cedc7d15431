package store_test

import (
	"fmt"
	"math"
	"reflect"
	"runtime"
	"slices"
	"strings"
	"sync"
	"testing"
	"time"

	"strata/api"
	"strata/redo"
	"strata/store"
)

// wild makes up anything that may be handed in, of a type.
func (m *maker) wild(v reflect.Value, depth int) {
	switch v.Kind() {
	case reflect.Struct:
		for i := range v.NumField() {
			if m.one(2) {
				m.wild(v.Field(i), depth)
			}
		}
	case reflect.Slice:
		n := pick(m, 0, 0, 1, 2, 3)
		if m.one(10 << depth) {
			n = pick(m, 8, 16, 17, 64, 65)
		}
		list := reflect.MakeSlice(v.Type(), n, n+m.Intn(3))
		for i := range n {
			m.wild(list.Index(i), depth+1)
		}
		v.Set(list)
	case reflect.Bool:
		v.SetBool(m.one(2))
	case reflect.String:
		v.SetString(pick(m, "", "a", "b", "t", "abs", "it's", "\n", "\x00", "\xff", "\xa0", "\x40\x60\xa0", strings.Repeat("n", 33), strings.Repeat("\x7f", 5000)))
	case reflect.Uint64:
		v.SetUint(pick[uint64](m, 0, 1, 7, 1<<62, 1<<63, math.MaxUint64))
	default:
		v.SetInt(int64(pick(m, strange()...)))
		if !m.one(4) {
			v.SetInt(int64(m.Intn(pick(m, 3, 13, 30))))
		}
	}
}

// anything makes up a thing of a type.
func anything[T any](m *maker) (v T) {
	m.wild(reflect.ValueOf(&v).Elem(), 0)
	return v
}

// someCommand is one of a teller, or one that is wrong in something, or anything.
func (m *teller) someCommand(down bool) api.Command {
	if m.one(8) {
		return anything[api.Command](m.maker)
	}
	c := commands(m.next(down))[0]
	if m.one(8) {
		v := reflect.ValueOf(&c).Elem()
		m.wild(v.Field(m.Intn(v.NumField())), 1)
	}
	return c
}

// P0.1: no call panics, and each ends, whatever it is given; and the replies are those of the chapter written down a second time.
func TestNoPanics(t *testing.T) {
	var all met
	inBatches(t, 1500, func(m *maker) string {
		setup := m.setup()
		s := made(t, setup)
		p, _ := newPlain(setup)
		teller := newTeller(m, setup)
		for range 60 {
			c := teller.someCommand(s.Down())
			rs, code := s.Play(c)
			all.replies(rs)
			if got, right := fmt.Sprintf("%+v %d", rs, code), fmt.Sprintf("%+v %d", p.play(c), api.OK); got != right {
				return fmt.Sprintf("P17.4: %+v: %s\nwant\n%s", c, got, right)
			}
			if m.one(10) {
				s.Do(pick(m, "", "oh", "\xff", "DRAIN", "DRAIN; @"))
			}
			s.Rows()
			s.Engine()
		}
		return ""
	})
	all.atLeast(t, 100, "@ E159", "? E159", "PLAY E159", "CRASH E159", "TICK E159", "@ OK")
}

// P0.1, P17.11: stores that are none.
func TestNoStore(t *testing.T) {
	var none *store.Store
	for what, s := range map[string]*store.Store{"nil": none, "one that New did not make": {}} {
		for _, script := range []string{"", "DRAIN;", "oh"} {
			rs, code, at := s.Do(script)
			want(t, "P17.3: Do of "+what, list(len(rs), code, at), list(0, api.ErrNil, 0))
		}
		rs, code := s.Play(api.Command{Kind: api.CmRestart}, api.Command{})
		want(t, "P17.4: Play of "+what, list(len(rs), code), list(0, api.ErrNil))
		want(t, "P17.11: "+what, list(s.Down(), s.Device() == nil, s.Engine() == nil, len(s.Rows())), list(true, true, true, 0))
	}
	s, code := store.New(api.Setup{})
	want(t, "P17.1: New of nothing", list(s == nil, code), list(true, api.ErrUnfit))
}

// roomy copies a thing with room behind each list, which must stay empty.
func roomy(v reflect.Value) reflect.Value {
	switch v.Kind() {
	case reflect.Struct:
		c := reflect.New(v.Type()).Elem()
		for i := range v.NumField() {
			c.Field(i).Set(roomy(v.Field(i)))
		}
		return c
	case reflect.Slice:
		c := reflect.MakeSlice(v.Type(), v.Len()+3, v.Len()+3)
		for i := range v.Len() {
			c.Index(i).Set(roomy(v.Index(i)))
		}
		return c.Slice(0, v.Len())
	}
	return v
}

func roomyOf[T any](v T) T { return roomy(reflect.ValueOf(v)).Interface().(T) }

// clean tells whether the room behind each list is still empty.
func clean(v reflect.Value) bool {
	switch v.Kind() {
	case reflect.Struct:
		for i := range v.NumField() {
			if !clean(v.Field(i)) {
				return false
			}
		}
	case reflect.Slice:
		full := v.Slice(0, v.Cap())
		for i := range full.Len() {
			if i >= v.Len() && !full.Index(i).IsZero() || i < v.Len() && !clean(full.Index(i)) {
				return false
			}
		}
	}
	return true
}

// lists tells all lists within a thing: what is kept of them keeps their places from being used again.
func lists(v reflect.Value) (all []reflect.Value) {
	switch v.Kind() {
	case reflect.Struct:
		for i := range v.NumField() {
			all = append(all, lists(v.Field(i))...)
		}
	case reflect.Slice:
		if v.Cap() > 0 {
			all = append(all, v.Slice(0, v.Cap()))
		}
		for i := range v.Len() {
			all = append(all, lists(v.Index(i))...)
		}
	}
	return all
}

// spoil writes over all lists of a thing, and behind them, the inner ones first.
func spoil(v reflect.Value) {
	switch v.Kind() {
	case reflect.Struct:
		for i := range v.NumField() {
			spoil(v.Field(i))
		}
	case reflect.Slice:
		full := v.Slice(0, v.Cap())
		for i := range full.Len() {
			spoil(full.Index(i))
			full.Index(i).SetZero()
		}
	}
}

// apart tells whether no two lists lie in one place, with the room behind them.
func apart(all []reflect.Value) bool {
	slices.SortFunc(all, func(a, b reflect.Value) int { return int(a.Pointer()) - int(b.Pointer()) })
	for i := 1; i < len(all); i++ {
		if last := all[i-1]; all[i].Pointer() < last.Pointer()+uintptr(last.Cap())*last.Type().Elem().Size() {
			return false
		}
	}
	return true
}

// P0.1, P17.11: what is handed in is not changed and not kept: the commands are written over as soon as Play has answered; what is answered is new memory all through: it is written over, too. A twin of which nobody writes anything over answers the same, ever after.
func TestWritingOver(t *testing.T) {
	inBatches(t, 700, func(m *maker) string {
		setup := m.setup()
		s, twin := made(t, setup), made(t, setup)
		teller := newTeller(m, setup)
		var all []reflect.Value
		for range 60 {
			var cs []api.Command
			for range 1 + m.Intn(4) {
				cs = append(cs, roomyOf(teller.someCommand(s.Down())))
			}
			before := fmt.Sprintf("%+v", cs)
			rs, _ := s.Play(cs...)
			right, _ := twin.Play(roomyOf(cs)...)
			if got, right := fmt.Sprintf("%+v", rs), fmt.Sprintf("%+v", right); got != right {
				return fmt.Sprintf("P0.1: %s: %s\nwant\n%s", before, got, right)
			}
			if fmt.Sprintf("%+v", cs) != before || !clean(reflect.ValueOf(cs).Slice3(0, len(cs), len(cs))) {
				return "P0.1: a command is changed"
			}
			rows := s.Rows()
			if fmt.Sprint(rows) != fmt.Sprint(twin.Rows()) || dump(s.Device()) != dump(twin.Device()) {
				return "P0.1: rows, or the device"
			}
			for _, x := range []any{cs, rs, rows} {
				all = append(all, lists(reflect.ValueOf(x))...)
				spoil(reflect.ValueOf(x))
			}
			s.Device().Crash(0)
			s.Device().Remove("log-000001")
		}
		if !apart(all) || len(all) < 50 {
			return "P0.1: two lists lie in one place"
		}
		return ""
	})
}

// P0.1: Print changes nothing of what it is given.
func TestPrintChangesNothing(t *testing.T) {
	inBatches(t, 3000, func(m *maker) string {
		rs := roomyOf(anything[[]api.Reply](m))
		before := fmt.Sprintf("%+v", rs)
		text := store.Print(rs...)
		if fmt.Sprintf("%+v", rs) != before || !clean(reflect.ValueOf(rs)) || store.Print(rs...) != text {
			return "P0.1: Print: " + before
		}
		return ""
	})
}

// P17.2, P17.11: the device of a store is nobody else's: neither the one that Open was given nor one that Device gives.
func TestDevicesAreCopies(t *testing.T) {
	d := newDevice(t, 10000)
	s := opened(t, chapterSetup(), d)
	do(t, s, table+"SYNC;")
	want(t, "P17.2: the device that was handed in", len(d.List()), 0)
	d.Create("notes")
	before := dump(s.Device())
	c := s.Device()
	c.Append("log-000001", "x")
	c.Cut(0)
	c.Sync("log-000001")
	c.Crash(9)
	want(t, "P17.11: the store's device", dump(s.Device()), before)
	tells(t, "P17.11", s, "SYNC; CRASH;", "3 SYNC OK", "4 CRASH OK")
	if s.Device() == nil || len(s.Device().List()) != 1 {
		t.Errorf("P17.11: no device while the store is down")
	}
	volatile := made(t, chapterSetup())
	do(t, volatile, table+"FLUSH;")
	c = volatile.Device()
	c.Crash(0)
	want(t, "P17.11: what is volatile is so in the copy", c.List()[0].Size, 24)
}

// P17.11: Engine is the one that is at work; behind a restart it is another one.
func TestEngines(t *testing.T) {
	s := made(t, chapterSetup())
	e := s.Engine()
	do(t, s, table)
	want(t, "P17.11: the engine", list(s.Engine() == e, e.Rows()), list(true, s.Rows()))
	do(t, s, "SYNC; RESTART;")
	want(t, "P17.11: behind a restart", list(s.Engine() == e, s.Engine().Rows()), list(false, e.Rows()))
}

// P17.11: several goroutines call one store at the same time: each call is whole: its commands have numbers that follow one another, and nobody else's come between.
func TestGoroutines(t *testing.T) {
	setup := roomySetup()
	setup.Engine.Sessions = 8
	s := made(t, setup)
	do(t, s, table+"SYNC;")
	var group sync.WaitGroup
	var lock sync.Mutex
	seen := map[int]int{}
	for w := range 8 {
		group.Go(func() {
			for i := range 40 {
				rs, code, _ := s.Do(fmt.Sprintf("FLUSH; @%d INSERT INTO t VALUES (%d, 0); DRAIN; SYNC;", w+1, 100*w+i))
				if code != api.OK || len(rs) != 4 || rs[0].Command+1 != rs[1].Command || rs[1].Command+1 != rs[2].Command || rs[2].Command+1 != rs[3].Command || rs[1].Code != api.OK || len(rs[3].Numbers) != 1 {
					t.Errorf("P17.11: not whole: %+v %d", rs, code)
				}
				more, _ := s.Play(api.Command{Kind: api.CmMerge}, api.Command{Kind: api.CmMerge, Num: 5})
				if len(more) != 2 || more[0].Command+1 != more[1].Command {
					t.Errorf("P17.11: not whole: %+v", more)
				}
				if s.Down() || s.Engine() == nil || s.Device() == nil || len(s.Rows()) < i {
					t.Errorf("P17.11: what the others tell")
				}
				lock.Lock()
				for _, r := range append(rs, more...) {
					seen[r.Command]++
				}
				lock.Unlock()
			}
		})
	}
	group.Wait()
	if len(seen) != 8*40*6 {
		t.Errorf("P17.11: %d numbers", len(seen))
	}
	want(t, "P17.11: rows", len(s.Rows()), 3+8*40)
}

// P0.1: the same commands get the same replies, and stores have nothing in common; all goroutines have ended when a call answers.
func TestTheSameAnswers(t *testing.T) {
	before := runtime.NumGoroutine()
	play := func(seed int64) string {
		m := newMaker(seed)
		setup := m.setup()
		s, code := store.New(setup)
		if code != api.OK {
			return ""
		}
		teller, text := newTeller(m, setup), ""
		for range 60 {
			rs, _ := s.Play(commands(teller.next(s.Down()))...)
			text += store.Print(rs...)
		}
		return text
	}
	var right []string
	for seed := range int64(100) {
		right = append(right, play(seed))
	}
	for n := 0; runtime.NumGoroutine() > before; n++ { // one that has ended may still be counted
		if n == 1000 {
			t.Fatalf("P0.1: %d goroutines, there were %d", runtime.NumGoroutine(), before)
		}
		time.Sleep(time.Millisecond)
	}
	var group sync.WaitGroup
	for range 4 {
		group.Go(func() {
			for seed, text := range right {
				if play(int64(seed)) != text {
					t.Errorf("P0.1: seed %d has other replies", seed)
				}
			}
		})
	}
	group.Wait()
}

// P17.2: two stores that were opened on one device have nothing in common.
func TestOpenTwice(t *testing.T) {
	first := made(t, chapterSetup())
	do(t, first, table+"SYNC;")
	var d *redo.Device = first.Device()
	a, b := opened(t, chapterSetup(), d), opened(t, chapterSetup(), d)
	do(t, a, "@1 INSERT INTO t VALUES (1, 1); DRAIN; SYNC;")
	want(t, "P17.2: the other store", list(len(a.Rows()), len(b.Rows()), len(first.Rows())), list(4, 3, 3))
	tells(t, "P17.2", b, "SYNC; @1 INSERT INTO t VALUES (2, 2); DRAIN; SYNC;", "0 SYNC OK", "1 @1 OK count 1 stamp 4 commit", "2 DRAIN OK", "3 SYNC OK 4")
}
