package bits

import "strata/api"

const (
	txnBit  uint64 = 1 << 63
	markBit uint64 = 1
)

// TimeWord tells the word of a timestamp (P1.1).
func TimeWord(t uint64) (uint64, api.Errno) {
	if t > api.MaxTime {
		return 0, api.ErrRange
	}
	return t, api.OK
}

// TxnWord tells the word of a transaction (P1.2).
func TxnWord(id uint64) (uint64, api.Errno) {
	if id > api.MaxTxn {
		return 0, api.ErrRange
	}
	return txnBit | id, api.OK
}

// Split tells a word's kind and number (P1.3).
func Split(w uint64) (api.WordKind, uint64) {
	switch {
	case w <= api.MaxTime:
		return api.WTime, w
	case w == api.Infinity:
		return api.WInf, 0
	case w >= txnBit && w-txnBit <= api.MaxTxn:
		return api.WTxn, w - txnBit
	}
	return api.WBad, 0
}

// Link tells the link of a slot and a mark (P1.4).
func Link(slot int, marked bool) (uint64, api.Errno) {
	if slot < 0 || slot > api.MaxSlot {
		return 0, api.ErrRange
	}
	w := uint64(slot) << 1
	if marked {
		w |= markBit
	}
	return w, api.OK
}

// OfLink takes a link apart (P1.5).
func OfLink(w uint64) (slot int, marked bool, e api.Errno) {
	if w>>1 > api.MaxSlot {
		return 0, false, api.ErrRange
	}
	return int(w >> 1), w&markBit != 0, api.OK
}
