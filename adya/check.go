package adya

import (
	"slices"

	"strata/api"
)

// fault is why a history is none, and where. It is thrown where it is found, and caught at the face.
type fault struct {
	code    api.Errno
	txn, op int
}

// opened gives the book of a history, or the first fault that keeps it from being one (P14.1).
func opened(h api.History) (b *book, f fault) {
	defer func() {
		switch thrown := recover().(type) {
		case nil:
		case fault:
			b, f = nil, thrown
		default:
			panic(thrown)
		}
	}()
	if len(h.Txns) > api.MaxTxns {
		panic(fault{code: api.ErrBig})
	}
	b = bookOf(h)
	for t := range h.Txns {
		b.checkTxn(t)
	}
	return b, fault{}
}

// spot is where something stands in a book: an operation of a transaction.
type spot struct {
	*book
	txn, op int
}

// need gives up if something does not hold.
func (s spot) need(holds bool, code api.Errno) {
	if !holds {
		panic(fault{code, s.txn, s.op})
	}
}

func (b *book) checkTxn(t int) {
	s, x := spot{b, t, 0}, b.txns[t]
	s.need(len(x.Ops) <= api.MaxActs, api.ErrBig)
	s.need(x.Fate >= api.FOpen && x.Fate <= api.FAborted, api.ErrHistory)
	s.need(x.Begin <= api.MaxTime && x.End <= api.MaxTime, api.ErrHistory)
	s.need(x.Iso >= api.ReadCommitted && x.Iso <= api.Serializable, api.ErrHistory)
	for _, place := range [...]int{x.BeginIn, x.BeginOut, x.EndIn, x.EndOut} {
		s.need(place >= 0 && place <= api.MaxPlace, api.ErrHistory)
	}
	if b.isCommitted(t) {
		s.checkEnd(x)
	}
	for o, op := range x.Ops {
		spot{b, t, o}.checkOp(op)
	}
}

// checkEnd looks at what only a committed transaction has to keep to.
func (s spot) checkEnd(x api.HTxn) {
	s.need(x.End >= x.Begin, api.ErrHistory)
	for t := range s.txn {
		s.need(!s.isCommitted(t) || s.txns[t].End != x.End, api.ErrHistory)
	}
	s.need(x.BeginIn <= x.BeginOut && x.BeginOut <= x.EndIn, api.ErrHistory)
	s.need(x.EndIn <= x.EndOut || x.EndOut == 0, api.ErrHistory)
}

func (s spot) checkOp(op api.HOp) {
	switch op.Kind {
	case api.OWrite:
	case api.ORead:
		s.checkAt(op.At)
		s.need(s.canBeTold(op.Ver), api.ErrHistory)
		made, _ := s.write(op.Ver)
		s.need(op.Value == made.Value, api.ErrHistory)
	case api.OScan:
		s.checkAt(op.At)
		s.checkScan(op)
	default:
		s.need(false, api.ErrHistory)
	}
}

func (s spot) checkAt(at uint64) {
	s.need(at <= api.MaxTime, api.ErrHistory)
	if x := s.txns[s.txn]; s.isCommitted(s.txn) {
		s.need(at >= x.Begin && at <= x.End, api.ErrHistory)
	}
}

func (s spot) checkScan(op api.HOp) {
	s.need(len(op.Seen) <= api.MaxSeen, api.ErrBig)
	for i, v := range op.Seen {
		s.need(v.Key >= op.Ver.Key && (op.Hi == "" || v.Key < op.Hi), api.ErrHistory)
		s.need(i == 0 || s.mayFollow(op.Seen[i-1].Key, v.Key), api.ErrHistory)
		s.need(s.canBeTold(v), api.ErrHistory)
	}
	if !s.isCommitted(s.txn) {
		return
	}
	for n := range s.untold(op) {
		s.need(!s.shouldBeTold(s.lines[n], op.At), api.ErrHistory)
	}
}

// mayFollow tells whether a scan may tell a key behind another: one that has not committed may have been told two versions of a key.
func (s spot) mayFollow(last, key string) bool {
	return last < key || last == key && !s.isCommitted(s.txn)
}

// ahead tells how many writes on a key the transaction has ahead of the operation.
func (s spot) ahead(key string) int {
	n, _ := slices.BinarySearch(s.writes[s.txn][key], s.op)
	return n
}

func (s spot) canBeTold(v api.Ver) bool {
	made, there := s.write(v)
	if !there || made.Dead {
		return false
	}
	if !s.isCommitted(s.txn) {
		return true
	}
	if n := s.ahead(v.Key); n > 0 {
		return v.From == s.txn && v.Nth == n
	}
	return v.From != s.txn
}

// shouldBeTold tells whether a scan that looks at a time finds a key there.
func (s spot) shouldBeTold(l line, at uint64) bool {
	if n := s.ahead(l.key); n > 0 {
		own, _ := s.write(api.Ver{Key: l.key, From: s.txn, Nth: n})
		return !own.Dead
	}
	return !l.versions[l.upTo(at, s.txn)].dead
}
