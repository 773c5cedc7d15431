package redo

import (
	"strata/api"
	"strata/bits"
)

// EncodeCommit gives the bytes of a commit (P11.11).
func EncodeCommit(c api.Commit) (string, api.Errno) {
	if !mayBe(c) {
		return "", api.ErrRecord
	}
	b := []byte(bits.Uvarint(c.Stamp))
	b = append(b, bits.Uvarint(uint64(len(c.Writes)))...)
	for _, w := range c.Writes {
		b = append(b, byte(w.Kind))
		b = append(b, blob(w.Key)...)
		if w.Kind == api.WritePut {
			b = append(b, blob(w.Data)...)
		}
	}
	return string(b), api.OK
}

// DecodeCommit reads the bytes of a commit (P11.12).
func DecodeCommit(s string) (c api.Commit, e api.Errno) {
	defer func() {
		if fault := recover(); fault != nil {
			c, e = api.Commit{}, fault.(api.Errno)
		}
	}()
	return commitOf(s), api.OK
}

// FrameCommits reads the commits of a data frame's body (P11.15).
func FrameCommits(body string) (list []api.Commit, e api.Errno) {
	defer func() {
		if fault := recover(); fault != nil {
			list, e = nil, fault.(api.Errno)
		}
	}()
	r := &reader{s: body}
	for {
		list = append(list, commitOf(take(r, bits.ReadBlob)))
		if !r.left() {
			return list, api.OK
		}
	}
}

func mayBe(c api.Commit) bool {
	if !isTime(c.Stamp) || len(c.Writes) < 1 || len(c.Writes) > api.MaxWrites {
		return false
	}
	for i, w := range c.Writes {
		if !mayWrite(w) || i > 0 && w.Key <= c.Writes[i-1].Key {
			return false
		}
	}
	return true
}

func mayWrite(w api.Write) bool {
	if len(w.Key) < 1 || len(w.Key) > api.MaxKey {
		return false
	}
	switch w.Kind {
	case api.WritePut:
		return len(w.Data) <= api.MaxData
	case api.WriteDelete:
		return w.Data == ""
	}
	return false
}

// isTime tells whether a number may be a timestamp, or the number of a commit.
func isTime(n uint64) bool { return n >= 1 && n <= api.MaxTime }

// blob tells the Blob of bytes whose length is far below what a Blob may have.
func blob(s string) string {
	b, _ := bits.Blob(s)
	return b
}

// reader goes over the bytes of commits from the left. At the first fault it gives up by a panic with the error's number.
type reader struct {
	s  string
	at int
}

func (r *reader) left() bool { return r.at < len(r.s) }

// take reads what stands next by one of the functions of layer 1.
func take[T any](r *reader, read func(string, int) (T, int, api.Errno)) T {
	v, next, e := read(r.s, r.at)
	if e != api.OK {
		panic(api.ErrRecord)
	}
	r.at = next
	return v
}

func (r *reader) byte() byte {
	if !r.left() {
		panic(api.ErrRecord)
	}
	r.at++
	return r.s[r.at-1]
}

func commitOf(s string) api.Commit {
	r := &reader{s: s}
	c := api.Commit{Stamp: take(r, bits.ReadUvarint)}
	n := take(r, bits.ReadUvarint)
	if n > api.MaxWrites {
		panic(api.ErrRecord)
	}
	c.Writes = make([]api.Write, n)
	for i := range c.Writes {
		c.Writes[i] = r.write()
	}
	if r.left() || !mayBe(c) {
		panic(api.ErrRecord)
	}
	return c
}

func (r *reader) write() api.Write {
	w := api.Write{Kind: int(r.byte()), Key: take(r, bits.ReadBlob)}
	if w.Kind == api.WritePut {
		w.Data = take(r, bits.ReadBlob)
	}
	return w
}
