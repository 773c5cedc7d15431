package engine

import (
	"slices"

	"strata/api"
)

// book is the record of what was done: the transactions, the number of the last event, and whose writes the versions are, by their slots.
type book struct {
	events int
	txns   []api.HTxn
	makers map[int]api.Ver
}

func newBook() book { return book{makers: map[int]api.Ver{}} }

// event numbers a call that was started, or is done.
func (b *book) event() int {
	b.events++
	return b.events
}

// load begins the transaction that stands for the rows that were there first.
func (b *book) load(clock uint64) {
	b.txns = append(b.txns, api.HTxn{Iso: api.Serializable, Fate: api.FCommitted, Begin: clock, End: clock})
}

func (b *book) loaded(slot int, r api.Row) { b.put(0, slot, r.Key, r.Data, 1) }

// began tells the place of a transaction whose begin, started with an event, was done with the last one.
func (b *book) began(iso int, begin uint64, came int) int {
	b.txns = append(b.txns, api.HTxn{Iso: iso, Begin: begin, BeginIn: came, BeginOut: b.events})
	return len(b.txns) - 1
}

// decided tells what became of a transaction, by a call that was started with an event.
func (b *book) decided(place int, fate api.Fate, end uint64, came int) {
	x := &b.txns[place]
	x.Fate, x.End, x.EndIn = fate, end, came
}

// departed tells that the call that ended a transaction was done with the last event.
func (b *book) departed(place int) { b.txns[place].EndOut = b.events }

func (b *book) add(place int, op api.HOp) { b.txns[place].Ops = append(b.txns[place].Ops, op) }

func (b *book) read(place, slot int, data string, at uint64) {
	b.add(place, api.HOp{Kind: api.ORead, Ver: b.makers[slot], Value: data, At: at})
}

func (b *book) scanned(place int, low, high string, seen []api.Ver, at uint64) {
	b.add(place, api.HOp{Kind: api.OScan, Ver: api.Ver{Key: low}, Hi: high, Seen: seen, At: at})
}

// put tells a version that was written: the nth write of its key.
func (b *book) put(place, slot int, key, data string, nth int) {
	b.makers[slot] = api.Ver{Key: key, From: place, Nth: nth}
	b.add(place, api.HOp{Kind: api.OWrite, Ver: api.Ver{Key: key}, Value: data})
}

func (b *book) deleted(place int, key string) {
	b.add(place, api.HOp{Kind: api.OWrite, Ver: api.Ver{Key: key}, Dead: true})
}

// told is a copy of the whole, down to the lists of each operation.
func (b *book) told() api.History {
	txns := slices.Clone(b.txns)
	for i := range txns {
		txns[i].Ops = slices.Clone(txns[i].Ops)
		for j := range txns[i].Ops {
			txns[i].Ops[j].Seen = slices.Clone(txns[i].Ops[j].Seen)
		}
	}
	return api.History{Txns: txns}
}
