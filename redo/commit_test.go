package redo_test

import (
	"encoding/binary"
	"fmt"
	"math"
	"math/rand"
	"strings"
	"testing"

	"strata/api"
	"strata/redo"
)

// rightCommits are such as may be, at their bounds and between.
func rightCommits() []api.Commit {
	many := commit(7)
	for i := range api.MaxWrites {
		many.Writes = append(many.Writes, put(fmt.Sprintf("%03d%s", i, strings.Repeat("k", 157)), strings.Repeat("\xff", api.MaxData)))
	}
	return []api.Commit{
		commit(5, put("a", "xy"), del("b")),
		commit(5, put("a", "")),
		commit(1, del("a")),
		commit(127, put("\x00", "\x00")),
		commit(128, put("\xff", "\xff")),
		commit(api.MaxTime, put("a", "1"), put("a\x00", "2"), del("aa"), put("b", "")),
		commit(1<<35, put(strings.Repeat("k", api.MaxKey), strings.Repeat("d", api.MaxData))),
		commit(1<<56, del(strings.Repeat("\x00", api.MaxKey))),
		commit(9, put("\x7f", "a"), put("\x80", "b")),
		commit(9, put("a", strings.Repeat("d", 127)), put("b", strings.Repeat("d", 128))),
		many,
	}
}

// wrongCommits are such as may not be, each for one reason.
func wrongCommits() map[string]api.Commit {
	many := commit(7)
	for i := range api.MaxWrites + 1 {
		many.Writes = append(many.Writes, put(fmt.Sprintf("%03d", i), ""))
	}
	w := map[string]api.Commit{
		"Stamp 0":                      commit(0, put("a", "")),
		"Stamp above MaxTime":          commit(api.MaxTime+1, put("a", "")),
		"the greatest Stamp":           commit(math.MaxUint64, put("a", "")),
		"no writes":                    commit(5),
		"an empty list":                {Stamp: 5, Writes: []api.Write{}},
		"MaxWrites + 1 writes":         many,
		"keys that fall":               commit(5, put("b", ""), put("a", "")),
		"one key twice":                commit(5, put("a", ""), put("a", "")),
		"one key twice, put, delete":   commit(5, put("a", ""), del("a")),
		"a longer key first":           commit(5, put("ab", ""), put("a", "")),
		"bytes are not signed":         commit(5, put("\x80", ""), put("\x7f", "")),
		"keys that fall at the end":    commit(5, put("a", ""), put("c", ""), put("b", "")),
		"an empty key":                 commit(5, put("", "")),
		"an empty key of a delete":     commit(5, del("")),
		"a key of MaxKey + 1":          commit(5, put(strings.Repeat("k", api.MaxKey+1), "")),
		"a deleted key of MaxKey + 1":  commit(5, del(strings.Repeat("k", api.MaxKey+1))),
		"a second key of MaxKey + 1":   commit(5, put("a", ""), put(strings.Repeat("k", api.MaxKey+1), "")),
		"data of MaxData + 1":          commit(5, put("k", strings.Repeat("d", api.MaxData+1))),
		"data of a delete":             commit(5, api.Write{Kind: 2, Key: "a", Data: "x"}),
		"data of the second, a delete": commit(5, put("a", ""), api.Write{Kind: 2, Key: "b", Data: "x"}),
	}
	for _, kind := range append(strange(), 3, 4, 256+1, 256+2, -254, -255) {
		if kind != 1 && kind != 2 {
			w[fmt.Sprint("kind ", kind)] = commit(5, api.Write{Kind: kind, Key: "a"})
		}
	}
	return w
}

// hasBytes tells whether what is wrong with a commit can be laid down in bytes at all.
func hasBytes(c api.Commit) bool {
	for _, w := range c.Writes {
		if w.Kind < 0 || w.Kind > 255 || w.Kind != 1 && w.Data != "" {
			return false
		}
	}
	return true
}

// P11.11
func TestEncodeCommit(t *testing.T) {
	for i, c := range rightCommits() {
		s, e := redo.EncodeCommit(c)
		want(t, fmt.Sprint("P11.11: ", i), []any{s, e}, []any{bytesOf(c), api.OK})
	}
	for what, c := range wrongCommits() {
		s, e := redo.EncodeCommit(c)
		want(t, "P11.11: "+what, []any{s, e}, []any{"", api.ErrRecord})
	}
}

// P11.12
func TestDecodeCommit(t *testing.T) {
	for i, c := range rightCommits() {
		s := bytesOf(c)
		got, e := redo.DecodeCommit(s)
		want(t, fmt.Sprint("P11.12: ", i), []any{got, e}, []any{c, api.OK})
		for _, more := range []string{"\x00", "\x01", "x", s} {
			wrongBytes(t, fmt.Sprint("bytes behind commit ", i), s+more)
		}
		for n := range min(len(s), 400) {
			wrongBytes(t, fmt.Sprintf("commit %d, cut at %d", i, n), s[:n])
		}
		wrongBytes(t, fmt.Sprintf("commit %d without its last byte", i), s[:len(s)-1])
	}
	for what, c := range wrongCommits() {
		if hasBytes(c) {
			wrongBytes(t, what, bytesOf(c))
		}
	}
}

func wrongBytes(t *testing.T, what, s string) {
	t.Helper()
	if c, e := redo.DecodeCommit(s); e != api.ErrRecord || c.Stamp != 0 || c.Writes != nil {
		t.Errorf("P11.12: %s: %.60x: %v, %d", what, s, c, e)
	}
}

// Numbers in another form than their shortest, and such as nothing may have.
func TestDecodeForms(t *testing.T) {
	for what, s := range map[string]string{
		"nothing":                          "",
		"a stamp of two bytes":             "\x85\x00\x01\x01\x01a\x00",
		"a count of two bytes":             "\x05\x81\x00\x01\x01a\x00",
		"a key's length of two bytes":      "\x05\x01\x01\x81\x00a\x00",
		"the data's length of two bytes":   "\x05\x01\x01\x01a\x80\x00",
		"the data's length of three":       "\x05\x01\x01\x01a\x81\x80\x00x",
		"a kind of two bytes":              "\x05\x01\x81\x00\x01a\x00",
		"a stamp beyond 64 bits":           strings.Repeat("\xff", 9) + "\x02\x01\x01\x01a\x00",
		"the greatest stamp":               strings.Repeat("\xff", 9) + "\x01\x01\x01\x01a\x00",
		"a stamp without end":              strings.Repeat("\x80", 20),
		"the greatest count":               "\x05" + strings.Repeat("\xff", 9) + "\x01\x01\x01a\x00",
		"a count of 129":                   "\x05\x81\x01\x01\x01a\x00",
		"a count of 2^40":                  "\x05" + uvarint(1<<40) + "\x01\x01a\x00",
		"a count of 2^62":                  "\x05" + uvarint(1<<62) + "\x01\x01a\x00",
		"more writes than there are":       "\x05\x02\x01\x01a\x00",
		"fewer writes than there are":      "\x05\x01\x01\x01a\x00\x01\x01b\x00",
		"no data of a put":                 "\x05\x01\x01\x01a",
		"data of a delete":                 "\x05\x01\x02\x01a\x00",
		"kind 0":                           "\x05\x01\x00\x01a",
		"kind 3":                           "\x05\x01\x03\x01a",
		"kind 3, with data":                "\x05\x01\x03\x01a\x00",
		"kind 255":                         "\x05\x01\xff\x01a\x00",
		"a key longer than there is":       "\x05\x01\x02\x02a",
		"the greatest key":                 "\x05\x01\x02" + strings.Repeat("\xff", 9) + "\x01a",
		"data longer than there is":        "\x05\x01\x01\x01a\x02x",
		"the data's length is not there":   "\x05\x02\x02\x01a\x01\x01b",
		"a key above what a Blob may have": "\x05\x01\x02\x81\x80\x40" + strings.Repeat("k", 1<<20+1),
	} {
		wrongBytes(t, what, s)
	}
}

// plainCommit reads the bytes of a commit without the program: what is read is laid down again, and has to be the same bytes.
func plainCommit(s string) (c api.Commit, good bool) {
	at := 0
	number := func() uint64 {
		v, n := binary.Uvarint([]byte(s[min(at, len(s)):]))
		if n <= 0 {
			at = len(s) + 1
			return 0
		}
		at += n
		return v
	}
	text := func() string {
		n := number()
		if at > len(s) || n > uint64(len(s)-at) {
			at = len(s) + 1
			return ""
		}
		at += int(n)
		return s[at-int(n) : at]
	}
	c.Stamp = number()
	for n := number(); n > 0 && at < len(s); n-- {
		w := api.Write{Kind: int(s[at])}
		at++
		w.Key = text()
		if w.Kind == 1 {
			w.Data = text()
		}
		c.Writes = append(c.Writes, w)
	}
	good = at == len(s) && bytesOf(c) == s && c.Stamp > 0 && c.Stamp < 1<<62 && len(c.Writes) > 0 && len(c.Writes) <= 128
	for i, w := range c.Writes {
		good = good && len(w.Key) > 0 && len(w.Key) <= 160 && len(w.Data) <= 512 && (w.Kind == 1 || w.Kind == 2)
		good = good && (i == 0 || strings.Compare(c.Writes[i-1].Key, w.Key) < 0)
	}
	if !good {
		return api.Commit{}, false
	}
	return c, true
}

// anyCommit makes up a commit that may be.
func anyCommit(r *rand.Rand, stamp uint64) api.Commit {
	c := commit(stamp)
	key := ""
	for range 1 + r.Intn(4) {
		key += string([]byte{byte(r.Intn(256))})
		if r.Intn(3) == 0 {
			c.Writes = append(c.Writes, del(key))
		} else {
			c.Writes = append(c.Writes, put(key, strings.Repeat("d", r.Intn(8))))
		}
	}
	return c
}

// Bytes of commits with a byte changed, taken out or put in, by chance: what is read is what they say, or nothing.
func TestDecodeAnything(t *testing.T) {
	r := rand.New(rand.NewSource(1))
	good := 0
	for range 60000 {
		s := bytesOf(anyCommit(r, 1+uint64(r.Intn(300))))
		for range r.Intn(3) {
			at := r.Intn(len(s))
			b := string([]byte{byte(r.Intn(4))})
			switch r.Intn(4) {
			case 0:
				s = s[:at] + b + s[at+1:]
			case 1:
				s = s[:at] + b + s[at:]
			case 2:
				s = s[:at] + s[at+1:] + "x"
			case 3:
				s = s[:at] + string([]byte{byte(r.Intn(256))}) + s[at+1:]
			}
		}
		c, right := plainCommit(s)
		got, e := redo.DecodeCommit(s)
		if right != (e == api.OK) || !right && e != api.ErrRecord || bytesOf(got) != bytesOf(c) {
			t.Fatalf("P11.12: %x: %v, %d, want %v, %v", s, got, e, c, right)
		}
		if right {
			good++
			if again, e := redo.EncodeCommit(got); again != s || e != api.OK {
				t.Fatalf("P11.11: %x is read, and laid down as %x, %d", s, again, e)
			}
		}
	}
	if good < 10000 || good > 50000 {
		t.Errorf("%d of them may be", good)
	}
}

// P11.15
func TestFrameCommits(t *testing.T) {
	all := rightCommits()
	for n := 1; n <= len(all); n++ {
		got, e := redo.FrameCommits(bodyOf(all[:n]...))
		want(t, fmt.Sprint("P11.15: commits ", n), []any{got, e}, []any{all[:n], api.OK})
	}
	twice := []api.Commit{all[0], all[0], all[1]}
	got, e := redo.FrameCommits(bodyOf(twice...))
	want(t, "P11.15: what stands there twice is told twice", []any{got, e}, []any{twice, api.OK})
	a, b := bodyOf(all[0]), bodyOf(all[1])
	wrong := map[string]string{
		"no byte":                       "",
		"an empty Blob":                 "\x00",
		"an empty Blob behind":          a + "\x00",
		"an empty Blob ahead":           "\x00" + a,
		"a byte behind":                 a + "\x01",
		"the first is no commit":        "\x01\x05" + a,
		"the last is no commit":         a + b + "\x01\x05",
		"a length of two bytes":         "\x86\x00" + bytesOf(all[1]),
		"the second length":             a + "\x86\x00" + bytesOf(all[1]),
		"a Blob above what one may be":  uvarint(1<<20+1) + strings.Repeat("x", 1<<20+1),
		"a length beyond what is there": a + "\x07" + bytesOf(all[1]),
		"bytes without their Blob":      bytesOf(all[1]),
		"two commits in one Blob":       blobOf(bytesOf(all[0]) + bytesOf(all[1])),
		"a Blob of a Blob":              blobOf(a),
	}
	for n := range a {
		wrong[fmt.Sprint("cut at ", n)] = a[:n]
		if n > 0 {
			wrong[fmt.Sprint("the second cut at ", n)] = b + a[:n]
		}
	}
	for what, c := range wrongCommits() {
		if hasBytes(c) {
			wrong[what] = a + bodyOf(c)
		}
	}
	for what, body := range wrong {
		if list, e := redo.FrameCommits(body); list != nil || e != api.ErrRecord {
			t.Errorf("P11.15: %s: %v, %d", what, list, e)
		}
	}
	// a body that no frame can have, but that is one all the same
	long := strings.Repeat(bodyOf(all[6]), 300)
	if list, e := redo.FrameCommits(long); len(list) != 300 || e != api.OK {
		t.Errorf("P11.15: %d bytes: %d, %d", len(long), len(list), e)
	}
}
