package bits

import "strata/api"

// reader goes over a text from the left. Its methods give up by a panic with the error's number, so that none of those that call them has to hand a fault on.
type reader struct {
	s  string
	at int
}

// read is the one door to a reader: every fault from inside ends here.
func read[T any](s string, at int, take func(*reader) T) (v T, next int, e api.Errno) {
	defer func() {
		if fault := recover(); fault != nil {
			var none T
			v, next, e = none, at, fault.(api.Errno)
		}
	}()
	if at < 0 || at > len(s) {
		panic(api.ErrRange)
	}
	r := reader{s, at}
	v = take(&r)
	return v, r.at, api.OK
}

func (r *reader) left() int { return len(r.s) - r.at }

func (r *reader) nextBytes(n int) string {
	if n > r.left() {
		panic(api.ErrShort)
	}
	b := r.s[r.at : r.at+n]
	r.at += n
	return b
}

func (r *reader) nextByte() byte { return r.nextBytes(1)[0] }
