package valid

import (
	"strata/api"
	"strata/bits"
	"strata/version"
)

// glance is a machine of one access: it loads a word of a version.
type glance struct {
	base *version.Base
	slot int
	cell int
	word uint64
	code api.Errno
}

// Step makes the access.
func (g *glance) Step() bool {
	g.word, g.code = g.base.Cells.Load(g.slot, g.cell)
	return true
}

// Code tells what the access answered.
func (g *glance) Code() api.Errno { return g.code }

// trial is what Reads and Looks share: whether a version is at the timestamp as it has to be. They part in the word by which it may be the transaction's own, in what it has to be, and in what comes behind it.
type trial struct {
	course
	id    int
	at    uint64
	cell  int       // of the word that makes it well if it is the transaction's own
	want  bool      // whether another version has to be seen, or must not be
	fault api.Errno // of one that is not as it has to be
	goOn  func()    // comes behind one that is
	load  *glance
	see   *version.See
}

// begin comes to the first version, if the transaction's number is one.
func (t *trial) begin(first func()) {
	if isPlace(t.base, t.id) {
		first()
	} else {
		t.refuse(api.ErrTx)
	}
}

func (t *trial) judge(slot int) {
	t.load = &glance{base: t.base, slot: slot, cell: t.cell}
	t.run(t.load, t.loaded)
}

// loaded passes by the transaction's own word: See would take what the transaction itself has ended as gone, and what it has begun as seen.
func (t *trial) loaded() {
	switch kind, of := bits.Split(t.load.word); {
	case kind == api.WTxn && of == uint64(t.id):
		t.goOn()
	case kind == api.WBad:
		t.finish(api.ErrRange)
	default:
		t.see = t.base.See(t.id, t.load.slot, t.at)
		t.run(t.see, t.saw)
	}
}

func (t *trial) saw() {
	if t.see.Seen() != t.want {
		t.finish(t.fault)
		return
	}
	t.goOn()
}
