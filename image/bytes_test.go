package image_test

import (
	"fmt"
	"math"
	"slices"
	"strings"
	"testing"

	"strata/api"
	"strata/image"
)

// The three kinds of files, and what may stand in them: each case differs from a right one in what its name says.

func longKey(n int) string { return strings.Repeat("k", n) }

// pairOf is a data file's base; each case changes it.
func pairOf(change func(p *api.FilePair)) api.FilePair {
	p := api.FilePair{Id: 3, Lo: 4, Hi: 300, Data: []api.Datum{datum(5, "a", "xy"), datum(5, "b", ""), datum(205, "a", "z"), datum(300, "\x00", "\xff")}}
	if change != nil {
		change(&p)
	}
	return p
}

// manyData are n data with rising keys.
func manyData(n int) []api.Datum {
	list := make([]api.Datum, n)
	for i := range list {
		list[i] = datum(5, fmt.Sprintf("%06d", i), "")
	}
	return list
}

func rightData() map[string]api.FilePair {
	m := map[string]api.FilePair{
		"the base":              pairOf(nil),
		"Id 1":                  pairOf(func(p *api.FilePair) { p.Id = 1 }),
		"Id MaxFileNo":          pairOf(func(p *api.FilePair) { p.Id = api.MaxFileNo }),
		"Lo 0":                  pairOf(func(p *api.FilePair) { p.Lo = 0 }),
		"Hi MaxTime":            pairOf(func(p *api.FilePair) { p.Hi = api.MaxTime }),
		"no data":               pairOf(func(p *api.FilePair) { p.Data = nil }),
		"an empty list":         pairOf(func(p *api.FilePair) { p.Data = []api.Datum{} }),
		"the least range":       {Id: 1, Lo: 0, Hi: 1, Data: []api.Datum{datum(1, "a", "")}},
		"the last range":        {Id: 1, Lo: api.MaxTime - 1, Hi: api.MaxTime, Data: []api.Datum{datum(api.MaxTime, "a", ""), datum(api.MaxTime, "b", "")}},
		"the whole range":       {Id: 1, Lo: 0, Hi: api.MaxTime, Data: []api.Datum{datum(1, "a", ""), datum(api.MaxTime, "a", "")}},
		"a key of MaxKey":       pairOf(func(p *api.FilePair) { p.Data[1].Key = longKey(api.MaxKey) }),
		"data of MaxData":       pairOf(func(p *api.FilePair) { p.Data[1].Data = longKey(api.MaxData) }),
		"falling keys":          pairOf(func(p *api.FilePair) { p.Data[0].Key, p.Data[1].Key, p.Data[2].Key = "y", "z", "a" }),
		"a key and a longer":    pairOf(func(p *api.FilePair) { p.Data[1].Key = "a\x00" }),
		"bytes have no sign":    pairOf(func(p *api.FilePair) { p.Data[0].Key, p.Data[1].Key = "\x7f", "\x80" }),
		"MaxPairData data":      pairOf(func(p *api.FilePair) { p.Data = manyData(api.MaxPairData) }),
		"a length of two bytes": pairOf(func(p *api.FilePair) { p.Data[3].Data = longKey(128) }),
	}
	return m
}

func wrongData() map[string]api.FilePair {
	m := map[string]api.FilePair{
		"Lo is Hi":                   {Id: 1, Lo: 7, Hi: 7},
		"Lo and Hi 0":                {Id: 1},
		"Lo above Hi":                {Id: 1, Lo: 8, Hi: 7},
		"Hi MaxTime + 1":             pairOf(func(p *api.FilePair) { p.Hi = api.MaxTime + 1 }),
		"the greatest Hi":            pairOf(func(p *api.FilePair) { p.Hi = math.MaxUint64 }),
		"the greatest Lo":            {Id: 1, Lo: math.MaxUint64, Hi: 1},
		"both above":                 {Id: 1, Lo: api.MaxTime + 1, Hi: api.MaxTime + 2},
		"MaxPairData + 1 data":       pairOf(func(p *api.FilePair) { p.Data = manyData(api.MaxPairData + 1) }),
		"the first Begin Lo":         pairOf(func(p *api.FilePair) { p.Data[0].Begin = 4 }),
		"the first Begin below Lo":   pairOf(func(p *api.FilePair) { p.Data[0].Begin = 3 }),
		"Begin 0":                    pairOf(func(p *api.FilePair) { p.Lo, p.Data[0].Begin = 0, 0 }),
		"the last Begin above Hi":    pairOf(func(p *api.FilePair) { p.Data[3].Begin = 301 }),
		"the only Begin above Hi":    pairOf(func(p *api.FilePair) { p.Data = []api.Datum{datum(301, "a", "")} }),
		"the greatest Begin":         pairOf(func(p *api.FilePair) { p.Data[3].Begin = math.MaxUint64 }),
		"a Begin in the midst above": pairOf(func(p *api.FilePair) { p.Data[2].Begin = 301 }),
		"falling Begins":             pairOf(func(p *api.FilePair) { p.Data[0].Begin = 6 }),
		"falling Begins at the end":  pairOf(func(p *api.FilePair) { p.Data[3].Begin = 204 }),
		"equal Begins, equal keys":   pairOf(func(p *api.FilePair) { p.Data[1].Key = "a" }),
		"equal Begins, falling keys": pairOf(func(p *api.FilePair) { p.Data[0].Key = "c" }),
		"a longer key first":         pairOf(func(p *api.FilePair) { p.Data[0].Key = "b\x00" }),
		"bytes with a sign":          pairOf(func(p *api.FilePair) { p.Data[0].Key, p.Data[1].Key = "\x80", "\x7f" }),
		"the same datum twice":       pairOf(func(p *api.FilePair) { p.Data[3] = p.Data[2] }),
		"an empty key":               pairOf(func(p *api.FilePair) { p.Data[0].Key = "" }),
		"an empty key at the end":    pairOf(func(p *api.FilePair) { p.Data[3].Key = "" }),
		"a key of MaxKey + 1":        pairOf(func(p *api.FilePair) { p.Data[1].Key = longKey(api.MaxKey + 1) }),
		"a huge key":                 pairOf(func(p *api.FilePair) { p.Data[1].Key = longKey(1<<20 + 1) }),
		"data of MaxData + 1":        pairOf(func(p *api.FilePair) { p.Data[3].Data = longKey(api.MaxData + 1) }),
		"huge data":                  pairOf(func(p *api.FilePair) { p.Data[0].Data = longKey(1<<20 + 1) }),
	}
	for _, n := range strange() {
		if n < 1 || n > api.MaxFileNo {
			m[fmt.Sprint("Id ", n)] = pairOf(func(p *api.FilePair) { p.Id = n })
		}
	}
	return m
}

// goneOf is a delta file's base.
func goneOf(change func(p *api.FilePair)) api.FilePair {
	p := api.FilePair{Id: 3, Gen: 2, Gone: []api.Erasure{erasure(5, 205, "a"), erasure(5, 6, "b"), erasure(205, 400, "a")}}
	if change != nil {
		change(&p)
	}
	return p
}

func manyGone(n int) []api.Erasure {
	list := make([]api.Erasure, n)
	for i := range list {
		list[i] = erasure(5, 6, fmt.Sprintf("%06d", i))
	}
	return list
}

func rightDeltas() map[string]api.FilePair {
	return map[string]api.FilePair{
		"the base":             goneOf(nil),
		"Id 1":                 goneOf(func(p *api.FilePair) { p.Id = 1 }),
		"Id MaxFileNo":         goneOf(func(p *api.FilePair) { p.Id = api.MaxFileNo }),
		"Gen 1":                goneOf(func(p *api.FilePair) { p.Gen = 1 }),
		"Gen MaxFileNo":        goneOf(func(p *api.FilePair) { p.Gen = api.MaxFileNo }),
		"one erasure":          goneOf(func(p *api.FilePair) { p.Gone = p.Gone[:1] }),
		"MaxPairData erasures": goneOf(func(p *api.FilePair) { p.Gone = manyGone(api.MaxPairData) }),
		"Begin 1, End 2":       goneOf(func(p *api.FilePair) { p.Gone[0] = erasure(1, 2, "a") }),
		"the last times":       goneOf(func(p *api.FilePair) { p.Gone[2] = erasure(api.MaxTime-1, api.MaxTime, "a") }),
		"End MaxTime":          goneOf(func(p *api.FilePair) { p.Gone[0].End = api.MaxTime }),
		"falling keys":         goneOf(func(p *api.FilePair) { p.Gone[0].Key, p.Gone[1].Key = "y", "z" }),
		"a key of MaxKey":      goneOf(func(p *api.FilePair) { p.Gone[2].Key = longKey(api.MaxKey) }),
		"a key and a longer":   goneOf(func(p *api.FilePair) { p.Gone[1].Key = "a\x00" }),
	}
}

func wrongDeltas() map[string]api.FilePair {
	m := map[string]api.FilePair{
		"no erasures":                goneOf(func(p *api.FilePair) { p.Gone = nil }),
		"an empty list":              goneOf(func(p *api.FilePair) { p.Gone = []api.Erasure{} }),
		"MaxPairData + 1 erasures":   goneOf(func(p *api.FilePair) { p.Gone = manyGone(api.MaxPairData + 1) }),
		"Begin 0":                    goneOf(func(p *api.FilePair) { p.Gone[0].Begin = 0 }),
		"End is Begin":               goneOf(func(p *api.FilePair) { p.Gone[0].End = 5 }),
		"End below Begin":            goneOf(func(p *api.FilePair) { p.Gone[2].End = 204 }),
		"End MaxTime + 1":            goneOf(func(p *api.FilePair) { p.Gone[0].End = api.MaxTime + 1 }),
		"the greatest End":           goneOf(func(p *api.FilePair) { p.Gone[0].End = math.MaxUint64 }),
		"Begin and End at MaxTime":   goneOf(func(p *api.FilePair) { p.Gone[2] = erasure(api.MaxTime, api.MaxTime, "a") }),
		"End above Begin, too great": goneOf(func(p *api.FilePair) { p.Gone[2] = erasure(api.MaxTime, api.MaxTime+1, "a") }),
		"the greatest Begin":         goneOf(func(p *api.FilePair) { p.Gone[2] = erasure(math.MaxUint64, 7, "a") }),
		"falling Begins":             goneOf(func(p *api.FilePair) { p.Gone[2].Begin = 4 }),
		"equal Begins, equal keys":   goneOf(func(p *api.FilePair) { p.Gone[1].Key = "a" }),
		"equal Begins, falling keys": goneOf(func(p *api.FilePair) { p.Gone[0].Key = "c" }),
		"falling ones at the end":    goneOf(func(p *api.FilePair) { p.Gone[2] = erasure(5, 7, "aa") }),
		"an empty key":               goneOf(func(p *api.FilePair) { p.Gone[0].Key = "" }),
		"a key of MaxKey + 1":        goneOf(func(p *api.FilePair) { p.Gone[2].Key = longKey(api.MaxKey + 1) }),
		"a huge key":                 goneOf(func(p *api.FilePair) { p.Gone[2].Key = longKey(1<<20 + 1) }),
	}
	for _, n := range strange() {
		if n < 1 || n > api.MaxFileNo {
			m[fmt.Sprint("Id ", n)] = goneOf(func(p *api.FilePair) { p.Id = n })
			m[fmt.Sprint("Gen ", n)] = goneOf(func(p *api.FilePair) { p.Gen = n })
		}
	}
	return m
}

// listOf is a manifest's base.
func listOf(change func(m *api.Manifest)) api.Manifest {
	m := api.Manifest{Gen: 5, Next: 9, Upto: 400, Pairs: []api.PairName{
		{Id: 8, Lo: 2, Hi: 10, Rows: 3, Gen: 5, Gone: 2, DataSum: 1, DeltaSum: 0x0a0b0c0d},
		{Id: 1, Lo: 10, Hi: 20, Rows: 2, DataSum: math.MaxUint32},
		{Id: 2, Lo: 30, Hi: 400, Rows: 1, Gen: 1, Gone: 1, DeltaSum: 7},
	}}
	if change != nil {
		change(&m)
	}
	return m
}

// manyPairs lie one behind the other.
func manyPairs(n int) []api.PairName {
	list := make([]api.PairName, n)
	for i := range list {
		list[i] = api.PairName{Id: i + 1, Lo: uint64(i), Hi: uint64(i + 1)}
	}
	return list
}

func rightManifests() map[string]api.Manifest {
	return map[string]api.Manifest{
		"the base":                  listOf(nil),
		"an empty one":              {Gen: 1, Next: 1},
		"no pairs":                  listOf(func(m *api.Manifest) { m.Pairs = nil }),
		"an empty list":             listOf(func(m *api.Manifest) { m.Pairs = []api.PairName{} }),
		"Gen MaxFileNo":             listOf(func(m *api.Manifest) { m.Gen = api.MaxFileNo }),
		"a pair's Gen MaxFileNo":    listOf(func(m *api.Manifest) { m.Gen, m.Pairs[0].Gen = api.MaxFileNo, api.MaxFileNo }),
		"Next MaxFileNo + 1":        listOf(func(m *api.Manifest) { m.Next, m.Pairs[1].Id = api.MaxFileNo+1, api.MaxFileNo }),
		"Upto MaxTime":              listOf(func(m *api.Manifest) { m.Upto = api.MaxTime }),
		"a pair up to MaxTime":      listOf(func(m *api.Manifest) { m.Upto, m.Pairs[2].Hi = api.MaxTime, api.MaxTime }),
		"MaxPairs pairs":            listOf(func(m *api.Manifest) { m.Next, m.Upto, m.Pairs = 257, 256, manyPairs(256) }),
		"Lo 0":                      listOf(func(m *api.Manifest) { m.Pairs[0].Lo = 0 }),
		"Rows MaxPairData":          listOf(func(m *api.Manifest) { m.Pairs[0].Rows = api.MaxPairData }),
		"all MaxPairData are gone":  listOf(func(m *api.Manifest) { m.Pairs[0].Rows, m.Pairs[0].Gone = api.MaxPairData, api.MaxPairData }),
		"Rows 0":                    listOf(func(m *api.Manifest) { m.Pairs[1].Rows = 0 }),
		"Gone is Rows":              listOf(func(m *api.Manifest) { m.Pairs[0].Gone = 3 }),
		"DeltaSum 0 of a delta":     listOf(func(m *api.Manifest) { m.Pairs[0].DeltaSum = 0 }),
		"the greatest DeltaSum":     listOf(func(m *api.Manifest) { m.Pairs[0].DeltaSum = math.MaxUint32 }),
		"a range of one":            listOf(func(m *api.Manifest) { m.Pairs[1].Lo, m.Pairs[1].Hi = 29, 30 }),
		"Next just above the Ids":   listOf(func(m *api.Manifest) { m.Pairs[0].Id = 7; m.Next = 8 }),
		"a pair's Gen below its Id": listOf(func(m *api.Manifest) { m.Pairs[2].Gen = 4 }),
	}
}

func wrongManifests() map[string]api.Manifest {
	m := map[string]api.Manifest{
		"nothing":                    {},
		"Next 0":                     {Gen: 1},
		"Gen 0":                      {Next: 1},
		"Next MaxFileNo + 2":         listOf(func(m *api.Manifest) { m.Next = api.MaxFileNo + 2 }),
		"Upto MaxTime + 1":           listOf(func(m *api.Manifest) { m.Upto = api.MaxTime + 1 }),
		"the greatest Upto":          listOf(func(m *api.Manifest) { m.Upto = math.MaxUint64 }),
		"MaxPairs + 1 pairs":         listOf(func(m *api.Manifest) { m.Next, m.Upto, m.Pairs = 258, 257, manyPairs(257) }),
		"two with one Id":            listOf(func(m *api.Manifest) { m.Pairs[1].Id = 8 }),
		"two apart with one Id":      listOf(func(m *api.Manifest) { m.Pairs[2].Id = 8 }),
		"an Id that is Next":         listOf(func(m *api.Manifest) { m.Next = 8 }),
		"an Id above Next":           listOf(func(m *api.Manifest) { m.Pairs[2].Id = 10 }),
		"ranges that overlap":        listOf(func(m *api.Manifest) { m.Pairs[1].Lo = 9 }),
		"later ranges that overlap":  listOf(func(m *api.Manifest) { m.Pairs[2].Lo = 19 }),
		"ranges that fall":           listOf(func(m *api.Manifest) { m.Pairs[0].Lo, m.Pairs[0].Hi = 40, 50 }),
		"a range of none":            listOf(func(m *api.Manifest) { m.Pairs[1].Hi = 10 }),
		"a range turned round":       listOf(func(m *api.Manifest) { m.Pairs[1].Lo, m.Pairs[1].Hi = 20, 15 }),
		"Hi above Upto":              listOf(func(m *api.Manifest) { m.Upto = 399 }),
		"an earlier Hi above Upto":   {Gen: 1, Next: 2, Upto: 9, Pairs: []api.PairName{{Id: 1, Lo: 0, Hi: 10}}},
		"the greatest Hi":            listOf(func(m *api.Manifest) { m.Pairs[2].Hi = math.MaxUint64 }),
		"the greatest Lo":            listOf(func(m *api.Manifest) { m.Pairs[2].Lo = math.MaxUint64 }),
		"Rows MaxPairData + 1":       listOf(func(m *api.Manifest) { m.Pairs[1].Rows = api.MaxPairData + 1 }),
		"Rows -1":                    listOf(func(m *api.Manifest) { m.Pairs[1].Rows = -1 }),
		"a pair's Gen -1":            listOf(func(m *api.Manifest) { m.Pairs[0].Gen = -1 }),
		"a pair's Gen above":         listOf(func(m *api.Manifest) { m.Pairs[0].Gen = 6 }),
		"Gone above Rows":            listOf(func(m *api.Manifest) { m.Pairs[0].Gone = 4 }),
		"Gone above Rows 0":          listOf(func(m *api.Manifest) { m.Pairs[0].Rows, m.Pairs[0].Gone = 0, 1 }),
		"Gone -1":                    listOf(func(m *api.Manifest) { m.Pairs[0].Gone = -1 }),
		"Gone 0 of a delta":          listOf(func(m *api.Manifest) { m.Pairs[0].Gone = 0 }),
		"Gone 1 without a delta":     listOf(func(m *api.Manifest) { m.Pairs[1].Gone = 1 }),
		"DeltaSum without a delta":   listOf(func(m *api.Manifest) { m.Pairs[1].DeltaSum = 1 }),
		"DeltaSum without, high":     listOf(func(m *api.Manifest) { m.Pairs[1].DeltaSum = 1 << 31 }),
		"Gone MaxPairData + 1":       listOf(func(m *api.Manifest) { m.Pairs[0].Rows, m.Pairs[0].Gone = api.MaxPairData+1, api.MaxPairData+1 }),
		"a wrong pair at the end":    listOf(func(m *api.Manifest) { m.Pairs[2].Rows = 0 }),
		"an Id of 0 at the end":      listOf(func(m *api.Manifest) { m.Pairs[2].Id = 0 }),
		"an Id below 0":              listOf(func(m *api.Manifest) { m.Pairs[2].Id = math.MinInt }),
		"the first Lo at its own Hi": listOf(func(m *api.Manifest) { m.Pairs[0].Lo = 10 }),
	}
	for _, n := range strange() {
		if n < 1 || n > api.MaxFileNo {
			m[fmt.Sprint("Gen ", n)] = listOf(func(m *api.Manifest) { m.Gen = n })
		}
		if n < 1 || n > api.MaxFileNo+1 {
			m[fmt.Sprint("Next ", n)] = listOf(func(m *api.Manifest) { m.Next, m.Pairs = n, nil })
		}
	}
	return m
}

// P12.1, P12.2: data files.
func TestDataFiles(t *testing.T) {
	for what, p := range rightData() {
		s, e := image.EncodeData(p)
		want(t, "P12.1: "+what, []any{s, e}, []any{dataBytes(p), api.OK})
		q := p
		q.Gen, q.Gone = -7, []api.Erasure{{}, {}}
		s, e = image.EncodeData(q)
		want(t, "P12.1: Gen and Gone are not looked at: "+what, []any{s, e}, []any{dataBytes(p), api.OK})
		got, e := image.DecodeData(dataBytes(p))
		want(t, "P12.2: "+what, []any{got, e}, []any{p, api.OK})
	}
	for what, p := range wrongData() {
		s, e := image.EncodeData(p)
		want(t, "P12.1: "+what, []any{s, e}, []any{"", api.ErrArg})
		notData(t, what, dataBytes(p), api.ErrForm)
	}
}

// P12.1, P12.2: delta files.
func TestDeltaFiles(t *testing.T) {
	for what, p := range rightDeltas() {
		s, e := image.EncodeDelta(p)
		want(t, "P12.1: "+what, []any{s, e}, []any{deltaBytes(p), api.OK})
		q := p
		q.Lo, q.Hi, q.Data = 9, 3, []api.Datum{{}, {}}
		s, e = image.EncodeDelta(q)
		want(t, "P12.1: the rest is not looked at: "+what, []any{s, e}, []any{deltaBytes(p), api.OK})
		got, e := image.DecodeDelta(deltaBytes(p))
		want(t, "P12.2: "+what, []any{got, e}, []any{p, api.OK})
	}
	for what, p := range wrongDeltas() {
		s, e := image.EncodeDelta(p)
		want(t, "P12.1: "+what, []any{s, e}, []any{"", api.ErrArg})
		notDelta(t, what, deltaBytes(p), api.ErrForm)
	}
}

// P12.1, P12.2: manifests.
func TestManifests(t *testing.T) {
	for what, m := range rightManifests() {
		s, e := image.EncodeManifest(m)
		want(t, "P12.1: "+what, []any{s, e}, []any{manifestBytes(m), api.OK})
		got, e := image.DecodeManifest(manifestBytes(m))
		want(t, "P12.2: "+what, []any{got, e}, []any{m, api.OK})
	}
	for what, m := range wrongManifests() {
		s, e := image.EncodeManifest(m)
		want(t, "P12.1: "+what, []any{s, e}, []any{"", api.ErrArg})
		notManifest(t, what, manifestBytes(m), api.ErrForm)
	}
}

func notData(t *testing.T, what, b string, right api.Errno) {
	if p, e := image.DecodeData(b); e != right || p.Id != 0 || p.Lo != 0 || p.Hi != 0 || p.Data != nil || p.Gen != 0 || p.Gone != nil {
		t.Errorf("P12.2: DecodeData: %s: %.80q: %.200v, %d, want %d", what, b, p, e, right)
	}
}

func notDelta(t *testing.T, what, b string, right api.Errno) {
	if p, e := image.DecodeDelta(b); e != right || p.Id != 0 || p.Lo != 0 || p.Hi != 0 || p.Data != nil || p.Gen != 0 || p.Gone != nil {
		t.Errorf("P12.2: DecodeDelta: %s: %.80q: %.200v, %d, want %d", what, b, p, e, right)
	}
}

func notManifest(t *testing.T, what, b string, right api.Errno) {
	if m, e := image.DecodeManifest(b); e != right || m.Gen != 0 || m.Next != 0 || m.Upto != 0 || m.Pairs != nil {
		t.Errorf("P12.2: DecodeManifest: %s: %.80q: %.200v, %d, want %d", what, b, m, e, right)
	}
}

// kind of a file: its letters, the parts of right contents, and how it is read.
type kind struct {
	letters string
	parts   []part
	not     func(t *testing.T, what, b string, right api.Errno)
	decode  func(b string) api.Errno
}

func kinds() []kind {
	return []kind{
		{"STRADAT1", dataParts(pairOf(nil)), notData, func(b string) api.Errno { _, e := image.DecodeData(b); return e }},
		{"STRADEL1", deltaParts(goneOf(nil)), notDelta, func(b string) api.Errno { _, e := image.DecodeDelta(b); return e }},
		{"STRAMAN1", manifestParts(listOf(nil)), notManifest, func(b string) api.Errno { _, e := image.DecodeManifest(b); return e }},
	}
}

// padded is a Uvarint in a longer form than its shortest.
func padded(n part) part {
	last := len(n.bytes) - 1
	return part{n.bytes[:last] + string([]byte{n.bytes[last] | 0x80, 0}), true}
}

// P12.2: contents that are not of the form.
func TestForms(t *testing.T) {
	for _, k := range kinds() {
		s := joined(k.parts)
		ok(t, k.letters, k.decode(seal(k.letters+s)))
		for n := range len(s) {
			k.not(t, fmt.Sprint("cut at ", n), seal(k.letters+s[:n]), api.ErrForm)
		}
		for _, more := range []string{"\x00", "\x01", "x", s, fixed32(sum(k.letters + s)).bytes} {
			k.not(t, "bytes left over", seal(k.letters+s+more), api.ErrForm)
		}
		for i, p := range k.parts {
			if !p.number {
				continue
			}
			for what, other := range map[string]part{
				"not the shortest form":   padded(p),
				"longer still":            padded(padded(p)),
				"the greatest number":     uvarint(math.MaxUint64),
				"2^63":                    uvarint(1 << 63),
				"a number beyond 64 bits": {strings.Repeat("\x80", 9) + "\x02", true},
				"a number without an end": {strings.Repeat("\xff", 12), true},
			} {
				list := slices.Clone(k.parts)
				list[i] = other
				k.not(t, fmt.Sprint("part ", i, ": ", what), seal(k.letters+joined(list)), api.ErrForm)
			}
		}
	}
}

// P12.2: a count above and below what is there.
func TestCounts(t *testing.T) {
	for _, k := range kinds() {
		at := 3
		if k.letters == "STRADEL1" {
			at = 2
		}
		right := uint64(k.parts[at].bytes[0])
		for _, n := range []uint64{0, 1, right - 1, right + 1, 127, 256, 257, 65536, 65537, 1 << 32, 1<<32 + right, 1 << 62, 1<<63 + right, math.MaxUint64} {
			if n == right {
				continue
			}
			list := slices.Clone(k.parts)
			list[at] = uvarint(n)
			k.not(t, fmt.Sprint("a count of ", n), seal(k.letters+joined(list)), api.ErrForm)
		}
	}
}

// P12.2: which of several errors is told.
func TestOrderOfErrors(t *testing.T) {
	for _, k := range kinds() {
		whole := seal(k.letters + joined(k.parts))
		for n := range 12 {
			k.not(t, "too short", whole[:n], api.ErrTorn)
			k.not(t, "too short, and no letters", strings.Repeat("x", n), api.ErrTorn)
		}
		k.not(t, "letters and a sum alone", seal(k.letters), api.ErrForm)
		k.not(t, "letters and a wrong sum", k.letters+"\x00\x00\x00\x00", api.ErrSum)
		k.not(t, "twelve bytes without letters", "xxxxxxxxxxxx", api.ErrMagic)
		for i := range k.letters {
			b := []byte(k.letters)
			b[i] ^= 0x20
			k.not(t, "wrong letters, a right sum", seal(string(b)+joined(k.parts)), api.ErrMagic)
			k.not(t, "wrong letters, a wrong sum", string(b)+whole[len(b):], api.ErrMagic)
		}
		for i := len(whole) - 4; i < len(whole); i++ {
			b := []byte(whole)
			b[i] ^= 0x01
			k.not(t, "a wrong sum", string(b), api.ErrSum)
		}
		k.not(t, "a wrong sum and a wrong form", k.letters+"\xff\xff\xff\xff\xff\xff", api.ErrSum)
		k.not(t, "cut", whole[:len(whole)-1], api.ErrSum)
		k.not(t, "a byte more", whole+"\x00", api.ErrSum)
		highest := []byte(whole)
		slices.Reverse(highest[len(highest)-4:])
		k.not(t, "the sum's highest byte first", string(highest), api.ErrSum)
		for _, other := range kinds() {
			if other.letters != k.letters {
				k.not(t, "another kind's file", seal(other.letters+joined(other.parts)), api.ErrMagic)
			}
		}
	}
}

// P12.3: every byte of a file turned into every other.
func TestTurnedBytes(t *testing.T) {
	for _, k := range kinds() {
		whole := []byte(seal(k.letters + joined(k.parts)))
		for i, right := range whole {
			for x := 1; x < 256; x++ {
				whole[i] = right ^ byte(x)
				expected := api.ErrSum
				if i < 8 {
					expected = api.ErrMagic
				}
				if e := k.decode(string(whole)); e != expected {
					t.Errorf("P12.3: %s with byte %d turned by %02x: %d, want %d", k.letters, i, x, e, expected)
				}
			}
			whole[i] = right
		}
	}
}

// P12.3 of files as a Close answers them.
func TestTurnedBytesOfCheckpoints(t *testing.T) {
	im := made(t, 3)
	absorb(t, im, commit(5, put("a", "1"), put("b", "2")), commit(9, put("a", longKey(200))), commit(300, del("b"), put("c", "")))
	for _, f := range closed(t, im, 1000) {
		decode := kinds()[0].decode
		switch {
		case strings.HasPrefix(f.Name, "delta-"):
			decode = kinds()[1].decode
		case strings.HasPrefix(f.Name, "manifest-"):
			decode = kinds()[2].decode
		}
		ok(t, f.Name, decode(f.Bytes))
		b := []byte(f.Bytes)
		for i, right := range b {
			for x := 1; x < 256; x++ {
				b[i] = right ^ byte(x)
				if decode(string(b)) == api.OK {
					t.Errorf("P12.3: %s with byte %d turned by %02x is read", f.Name, i, x)
				}
			}
			b[i] = right
		}
	}
}
