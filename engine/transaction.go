package engine

import (
	"cmp"
	"maps"
	"slices"

	"strata/api"
	"strata/valid"
)

// transaction is what a session keeps of its transaction.
type transaction struct {
	open  bool // its begin was done, and the call that ends it was not
	id    int  // of its record
	iso   int
	begin uint64
	end   uint64
	made  intents
	taken intents
	wrote bool // it has made or taken a version, perhaps one that was given up: others may hold its number
	sees  *valid.Sees
	place int            // in the history
	turns map[string]int // how often it has written each key
}

// intent is a version that a transaction has made or taken.
type intent struct {
	turn  int // when: behind how many others
	entry api.Entry
}

// intents are versions by their slots.
type intents map[int]intent

// add puts a version behind those that are there.
func (n intents) add(slot int, entry api.Entry) { n[slot] = intent{len(n), entry} }

// has tells whether a version is there.
func (n intents) has(slot int) bool {
	_, ok := n[slot]
	return ok
}

// full tells whether no other version may be added.
func (n intents) full() bool { return len(n) >= api.MaxIntents }

// slots tells the versions in the order in which they were added.
func (n intents) slots() []int {
	return slices.SortedFunc(maps.Keys(n), func(a, b int) int {
		return cmp.Or(cmp.Compare(n[a].turn, n[b].turn), cmp.Compare(a, b))
	})
}

// writes tells what a commit comes to, by key: a version that was made and taken again leaves nothing, and what the transaction has put in the place of another's version is a put (P10.11).
func (t *transaction) writes() []api.Write {
	net := map[string]api.Write{}
	for _, slot := range t.taken.slots() {
		if key := t.taken[slot].entry.Name; !t.made.has(slot) {
			net[key] = api.Write{Kind: api.WriteDelete, Key: key}
		}
	}
	for _, slot := range t.made.slots() {
		if entry := t.made[slot].entry; !t.taken.has(slot) {
			net[entry.Name] = api.Write{Kind: api.WritePut, Key: entry.Name, Data: entry.Data}
		}
	}
	var told []api.Write
	for _, key := range slices.Sorted(maps.Keys(net)) {
		told = append(told, net[key])
	}
	return told
}

// noting tells whether its level asks at the end for what was seen.
func (t *transaction) noting() bool { return t.iso >= api.RepeatableRead }

// noteRead notes a version that was seen, unless it is its own.
func (t *transaction) noteRead(slot int) {
	if t.noting() && !t.made.has(slot) {
		orGiveUp(t.sees.Read(slot))
	}
}

// noteLook notes a range that was looked through.
func (t *transaction) noteLook(low, high string) {
	if t.noting() {
		orGiveUp(t.sees.Look(low, high))
	}
}

// orGiveUp ends the transaction where something has gone wrong.
func orGiveUp(e api.Errno) {
	if e != api.OK {
		giveUp(e)
	}
}
