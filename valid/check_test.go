package valid_test

import (
	"fmt"
	"testing"

	"strata/api"
	"strata/valid"
)

// What a level asks for: nothing, the versions, the ranges behind them.
func TestCheckByLevel(t *testing.T) {
	for _, c := range []struct {
		what     string
		iso      int
		slots    []int
		bounds   []string
		accesses string
		e        api.Errno
	}{
		{"nothing is asked for", api.ReadCommitted, []int{3, 9}, []string{"", ""}, "", api.OK},
		{"nothing is asked for", api.Snapshot, []int{3, 9}, []string{"", ""}, "", api.OK},
		{"nothing is noted", api.ReadCommitted, nil, nil, "", api.OK},
		{"nothing is noted", api.Snapshot, nil, nil, "", api.OK},
		{"nothing is noted", api.RepeatableRead, nil, nil, "", api.OK},
		{"nothing is noted", api.Serializable, nil, nil, "", api.OK},
		{"versions are well", api.RepeatableRead, []int{1, 2}, nil, "ccc" + "c", api.OK},
		{"versions are well, ranges are not asked for", api.RepeatableRead, []int{1, 2}, []string{"", ""}, "ccc" + "c", api.OK},
		{"ranges are not asked for", api.RepeatableRead, nil, []string{"", ""}, "", api.OK},
		{"a version is gone", api.RepeatableRead, []int{1, 3, 2}, nil, "ccc" + "ccc", api.ErrRead},
		{"no ranges", api.Serializable, []int{1, 2}, nil, "ccc" + "c", api.OK},
		{"no versions", api.Serializable, nil, []string{"e", ""}, heads + "ccc" + "cc", api.OK},
		{"no versions, something new", api.Serializable, nil, []string{"", "d"}, heads + "cccc", api.ErrPhantom},
		{"both are well", api.Serializable, []int{1, 2}, []string{"", ""}, "ccc" + "c" + heads + "c" + "c" + "cccc" + "cc", api.OK},
		{"two ranges", api.Serializable, []int{1, 2}, []string{"", "b", "k", ""}, "ccc" + "c" + heads + "c" + "c" + heads + "ccc" + "cc", api.OK},
		{"a version is gone: the ranges are not looked at", api.Serializable, []int{3, 1}, []string{"", ""}, "ccc", api.ErrRead},
		{"the last version is gone", api.Serializable, []int{1, 2, 3}, []string{"", ""}, "ccc" + "c" + "ccc", api.ErrRead},
		{"both are wrong", api.Serializable, []int{2, 3}, []string{"", ""}, "c" + "ccc", api.ErrRead},
		{"something new", api.Serializable, []int{2}, []string{"", ""}, "c" + heads + "cccc", api.ErrPhantom},
		{"something new in the second range", api.Serializable, []int{2}, []string{"k", "", "", ""}, "c" + heads + "ccc" + "cc" + heads + "cccc", api.ErrPhantom},
		{"no slot", api.Serializable, []int{9}, []string{"", ""}, "x", api.ErrSlot},
		{"no slot behind others", api.RepeatableRead, []int{2, 0}, []string{"", ""}, "cx", api.ErrSlot},
	} {
		w := newWorld(t, 8, 3, 7)
		w.open(1)
		w.put("a", "3", "inf")  // 1: seen
		w.put("c", "3", "#1")   // 2: its own end
		w.put("d", "3", "9")    // 3: gone
		w.put("k", "#1", "inf") // 4: its own begin
		what := fmt.Sprintf("P9.5: level %d: %s", c.iso, c.what)
		m := valid.NewCheck(w.Base, 1, c.iso, sees(t, c.slots, c.bounds...), 10)
		if c.accesses == "" {
			w.refused(what, m, c.e)
			continue
		}
		w.finish(what, m, c.accesses, c.e)
	}
}

// Levels that are none, and numbers that are no transaction's: the latter are told first.
func TestCheckOfWhatIsNone(t *testing.T) {
	w := newWorld(t, 8, 3, 7)
	w.open(2)
	w.put("a", "3", "inf")
	for _, s := range []*valid.Sees{valid.NewSees(), sees(t, []int{1, 9}), sees(t, nil, "", ""), sees(t, []int{9}, "", "")} {
		for _, iso := range strange() {
			for _, id := range strange() {
				switch what := fmt.Sprintf("P9.5: id %d, level %d", id, iso); {
				case id < 1 || id > 3:
					w.refused(what, valid.NewCheck(w.Base, id, iso, s, 10), api.ErrTx)
				case iso < 1 || iso > 4:
					w.refused(what, valid.NewCheck(w.Base, id, iso, s, 10), api.ErrArg)
				case iso < 3:
					w.refused(what, valid.NewCheck(w.Base, id, iso, s, 10), api.OK)
				}
			}
		}
		for _, id := range strange() {
			if id < 1 || id > 3 {
				w.refused(fmt.Sprint("P9.3: id ", id), valid.NewReads(w.Base, id, s, 10), api.ErrTx)
				w.refused(fmt.Sprint("P9.4: id ", id), valid.NewLooks(w.Base, id, s, 10), api.ErrTx)
			}
		}
	}
}

// A number whose record is not in use may be asked for: nothing is asked of it, till it has to depend on another one.
func TestCheckForARecordThatIsNotInUse(t *testing.T) {
	w := newWorld(t, 8, 3, 7)
	w.open(2)
	w.draw(2)
	w.put("a", "3", "inf")
	w.put("c", "3", "#3")
	w.put("d", "3", "#2")
	w.finish("P9.3: a record that is not in use", valid.NewReads(w.Base, 3, sees(t, []int{1, 2}), 10), "ccc"+"c", api.OK)
	w.finish("P9.3: a record that is not in use", valid.NewReads(w.Base, 3, sees(t, []int{1, 3}), 10), "ccc"+"ccctt"+"tx", api.ErrTx)
	w.finish("P9.4: a record that is not in use", valid.NewLooks(w.Base, 3, sees(t, []int{1}, "", ""), 10), heads+"c"+"cccc"+"c"+"ccctt"+"tx", api.ErrTx)
}

// A Check looks at the set as it is when it is made, the ranges too.
func TestCheckOfWhatWasNotedByThen(t *testing.T) {
	w := newWorld(t, 8, 3, 7)
	w.open(1)
	w.put("a", "3", "inf")
	w.put("c", "11", "inf")
	s := sees(t, []int{1})
	one := valid.NewCheck(w.Base, 1, api.Serializable, s, 10)
	s.Look("", "b")
	two := valid.NewCheck(w.Base, 1, api.Serializable, s, 10)
	w.play("P9.5: its first step", two, "c")
	s.Read(2)
	s.Look("b", "")
	three := valid.NewCheck(w.Base, 1, api.Serializable, s, 10)
	w.finish("P9.5: a version alone", one, "ccc", api.OK)
	w.finish("P9.5: a version and a range", two, "cc"+heads+"cc", api.OK)
	w.finish("P9.5: two versions and two ranges", three, "ccc"+"cc", api.ErrRead)
	empty := valid.NewSees()
	none := valid.NewCheck(w.Base, 1, api.Serializable, empty, 10)
	empty.Read(2)
	empty.Look("", "")
	w.refused("P9.5: nothing was noted", none, api.OK)
}

// Machines share a set and do not share their way through it.
func TestMachinesOfOneSet(t *testing.T) {
	w := newWorld(t, 8, 3, 7)
	w.open(2)
	w.put("a", "3", "#1")
	w.put("c", "3", "inf")
	s := sees(t, []int{1, 2}, "", "b", "c", "")
	one, two, three := valid.NewCheck(w.Base, 1, 4, s, 10), valid.NewReads(w.Base, 2, s, 10), valid.NewLooks(w.Base, 2, s, 10)
	w.play("by turns", one, "cc")
	w.play("by turns", two, "ccc")
	w.play("by turns", three, "ooooc")
	w.play("by turns", one, "cc"+"oo")
	w.play("by turns", two, "tc")
	w.play("by turns", three, "c"+"o")
	w.finish("P9.5: by turns", one, "oo"+"c"+"c"+heads+"c"+"c", api.OK)
	w.finish("P9.3: by turns", two, "cc", api.OK)
	w.finish("P9.4: by turns", three, "ooo"+"c"+"c", api.OK)
}
