package store_test

import (
	"fmt"
	"math"
	"math/rand"
	"os"
	"runtime"
	"runtime/debug"
	"strings"
	"sync"
	"sync/atomic"
	"testing"

	"strata/api"
	"strata/redo"
	"strata/store"
	"strata/tongue"
)

// The tests make many things that live shortly: collecting them that often would take most of the time.
func TestMain(m *testing.M) {
	debug.SetGCPercent(800)
	os.Exit(m.Run())
}

// want holds what was answered against what should have been.
func want(t *testing.T, what string, got, right any) {
	t.Helper()
	if a, b := fmt.Sprintf("%+v", got), fmt.Sprintf("%+v", right); a != b {
		t.Errorf("%s: got\n%.2000s\nwant\n%.2000s", what, a, b)
	}
}

// list puts answers side by side.
func list(of ...any) []any { return of }

// strange are numbers at and beyond all bounds.
func strange() []int {
	return []int{math.MinInt, math.MinInt32, -2, -1, 0, 1, 2, 3, 4, 5, 13, 14, 15, 16, 17, 63, 64, 65, 255, 256, 257, 4096, 4097, 262144, 262145, 1 << 20, 1<<20 + 1, 1 << 31, 1 << 62, math.MaxInt - 1, math.MaxInt}
}

// chapterSetup is that of the document's examples.
func chapterSetup() api.Setup {
	return api.Setup{Engine: api.Config{Slots: 64, Buckets: 4, TxSlots: 8, Sessions: 3}, Device: 65536, Segment: 4096, Batch: 4, Limit: 8, Workers: 2}
}

// roomySetup is one in which nothing gets full soon.
func roomySetup() api.Setup {
	return api.Setup{Engine: api.Config{Slots: 1000, Buckets: 8, TxSlots: 64, Sessions: 3}, Device: 1 << 20, Segment: 4096, Batch: 4, Limit: 8, Workers: 2}
}

func made(t *testing.T, setup api.Setup) *store.Store {
	t.Helper()
	s, code := store.New(setup)
	if s == nil || code != api.OK {
		t.Fatalf("P17.1: New(%+v): %v, %d", setup, s, code)
	}
	return s
}

func opened(t *testing.T, setup api.Setup, d *redo.Device) *store.Store {
	t.Helper()
	s, code := store.Open(setup, d)
	if s == nil || code != api.OK {
		t.Fatalf("P17.2: Open(%+v): %v, %d", setup, s, code)
	}
	return s
}

// do plays a script that Parse reads.
func do(t *testing.T, s *store.Store, script string) []api.Reply {
	t.Helper()
	rs, code, at := s.Do(script)
	if code != api.OK || at != 0 {
		t.Fatalf("P17.3: Do(%q): %d at %d", script, code, at)
	}
	return rs
}

// told is the text of what a script is answered, without the steps of PLAY and DRAIN.
func told(t *testing.T, s *store.Store, script string) string {
	t.Helper()
	rs := do(t, s, script)
	for i, r := range rs {
		if r.Kind == api.CmDrain || r.Kind == api.CmPlay {
			rs[i].Numbers = nil
		}
	}
	return store.Print(rs...)
}

// lines are those of a text, each ended.
func lines(l ...string) string {
	if len(l) == 0 {
		return ""
	}
	return strings.Join(l, "\n") + "\n"
}

// tells holds the text of what a script is answered, without steps, against lines.
func tells(t *testing.T, what string, s *store.Store, script string, right ...string) {
	t.Helper()
	want(t, what+": "+script, told(t, s, script), lines(right...))
}

// stmt is a command of a session.
func stmt(t *testing.T, text string) api.Command {
	t.Helper()
	cs, code, at := tongue.Parse(text)
	if code != api.OK || len(cs) != 1 {
		t.Fatalf("Parse(%q): %d at %d", text, code, at)
	}
	return cs[0]
}

// newDevice is one without files.
func newDevice(t *testing.T, limit int) *redo.Device {
	t.Helper()
	d, code := redo.NewDevice(limit)
	if code != api.OK {
		t.Fatalf("NewDevice(%d): %d", limit, code)
	}
	return d
}

// dump tells all of a device that can be seen.
func dump(d *redo.Device) string {
	var text strings.Builder
	room, files := d.Room()
	fmt.Fprintf(&text, "room %d %d changes %d\n", room, files, d.Changes())
	for _, f := range d.List() {
		bytes, _ := d.Read(f.Name)
		fmt.Fprintf(&text, "%+v %q\n", f, bytes)
	}
	return text.String()
}

// wholeDump tells of a device also what each crash of its directory leaves, and how many more calls its power lasts.
func wholeDump(d *redo.Device) string {
	text := dump(d)
	for dir := range d.Changes() + 1 {
		c := d.Copy()
		c.Crash(dir)
		text += dump(c)
	}
	c := d.Copy()
	for n := range 50 {
		if code := c.SyncDir(); code != api.OK {
			return text + fmt.Sprint("power for ", n, " calls, then ", code)
		}
	}
	return text
}

// maker makes things up.
type maker struct {
	*rand.Rand
	seed int64
}

func newMaker(seed int64) *maker { return &maker{rand.New(rand.NewSource(seed)), seed} }

// one is true one time in n.
func (m *maker) one(n int) bool { return m.Intn(n) == 0 }

func pick[T any](m *maker, of ...T) T { return of[m.Intn(len(of))] }

// met counts what came up, by a name.
type met struct {
	lock   sync.Mutex
	counts map[string]int
}

func (c *met) add(what string) {
	c.lock.Lock()
	defer c.lock.Unlock()
	if c.counts == nil {
		c.counts = map[string]int{}
	}
	c.counts[what]++
}

// replies counts the kinds and codes of replies.
func (c *met) replies(rs []api.Reply) {
	for _, r := range rs {
		c.add(head(r))
	}
}

// head is the keyword and the code of a reply.
func head(r api.Reply) string {
	words := strings.Fields(store.Print(r))
	if r.Kind == api.CmStmt {
		words[1] = "@"
	}
	return words[1] + " " + words[2]
}

func (c *met) atLeast(t *testing.T, n int, whats ...string) {
	t.Helper()
	for _, what := range whats {
		if c.counts[what] < n {
			t.Errorf("%q came up %d times", what, c.counts[what])
		}
	}
}

// inBatches tries a thing n times, on all processors; what it tells is a fault.
func inBatches(t *testing.T, n int, try func(m *maker) string) {
	t.Helper()
	var group sync.WaitGroup
	var failed atomic.Bool
	workers := runtime.GOMAXPROCS(0)
	for w := range workers {
		group.Go(func() {
			for seed := w; seed < n && !failed.Load(); seed += workers {
				if fault := try(newMaker(int64(seed))); fault != "" {
					failed.Store(true)
					t.Errorf("seed %d: %.6000s", seed, fault)
				}
			}
		})
	}
	group.Wait()
}
