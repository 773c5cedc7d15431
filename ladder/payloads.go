package ladder

import "strata/api"

// keyOf asks the payload of a slot for its key.
func (l *Ladder[P]) keyOf(slot int) (string, api.Errno) {
	p, e := l.arena.Payload(slot)
	if e != api.OK {
		return "", e
	}
	return askKey(p), api.OK
}

// askKey asks a payload for its key. One that is not there (a nil pointer, a nil interface) can't be asked and would panic: it answers zero, as every nil object does.
func askKey[P api.Keyed](p P) (key string) {
	defer func() { _ = recover() }()
	return p.Key()
}

// askHeight asks a payload for its height; of one that can't be asked it is 0, which may not be.
func askHeight[P api.Keyed](p P) (height int) {
	defer func() { _ = recover() }()
	return p.Height()
}
