package revive

import (
	"cmp"
	"slices"

	"strata/api"
)

// known is what is known of a key: the write that counts.
type known struct {
	stamp uint64
	data  string
	gone  bool // it was a delete
}

// piece is a write for whoever has its key.
type piece struct {
	known
	key string
}

func pieceOf(stamp uint64, w api.Write) piece {
	return piece{known{stamp, w.Data, w.Kind == api.WriteDelete}, w.Key}
}

// table holds what is known of keys. The deleted ones stay: a write with a lesser stamp may still come.
type table map[string]known

// play takes a write, unless one with a greater stamp is known.
func (t table) play(p piece) {
	if p.stamp >= t[p.key].stamp {
		t[p.key] = p.known
	}
}

// rowsOf tells what stands in tables that have no key in common, by key.
func rowsOf(tables ...table) []api.Row {
	var rows []api.Row
	for _, t := range tables {
		for key, k := range t {
			if !k.gone {
				rows = append(rows, api.Row{Key: key, Data: k.data, Stamp: k.stamp})
			}
		}
	}
	slices.SortFunc(rows, func(a, b api.Row) int { return cmp.Compare(a.Key, b.Key) })
	return rows
}

// played tells what workers make of a checkpoint's rows and of commits that are all above it, so that its rows can be dealt out ahead like writes.
func played(workers int, rows []api.Row, commits []api.Commit) []api.Row {
	tables := make([]table, workers)
	for i := range tables {
		tables[i] = table{}
	}
	c := newCrew(workers, func(worker int, p piece) { tables[worker].play(p) })
	for _, r := range rows {
		c.deal(r.Key, piece{known{stamp: r.Stamp, data: r.Data}, r.Key})
	}
	for _, commit := range commits {
		for _, w := range commit.Writes {
			c.deal(w.Key, pieceOf(commit.Stamp, w))
		}
	}
	c.end()
	return rowsOf(tables...)
}
