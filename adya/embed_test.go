package adya_test

import (
	"fmt"
	"testing"

	"strata/adya"
	"strata/api"
)

// wide gives a transaction places that are in nobody's way.
func wide(x api.HTxn) api.HTxn { return placed(x, 0, 9, 9, 0) }

// moments tells what Embed tells without the places.
func moments(t *testing.T, what string, h api.History, right string) {
	t.Helper()
	checks(t, what, h, api.OK, 0, 0)
	points, e := adya.Embed(h)
	text := ""
	for _, p := range points {
		text += map[bool]string{false: "b", true: "c"}[p.Commit] + fmt.Sprint(p.Txn) + " "
	}
	want(t, "P14.9: "+what, []any{text, e}, []any{right, api.OK})
}

// Moments of one timestamp: the begin of one whose End it is too, then commits, then other begins, by the numbers.
func TestMomentsInOrder(t *testing.T) {
	moments(t, "by the timestamps", history(wide(txn(3, 4)), wide(txn(1, 2)), wide(txn(0, 5))), "b2 b1 c1 b0 c0 c2 ")
	moments(t, "begins by the numbers", history(wide(txn(2, 4)), wide(txn(2, 5)), wide(txn(2, 3))), "b0 b1 b2 c2 c0 c1 ")
	moments(t, "commits ahead of begins", history(wide(txn(3, 9)), wide(txn(1, 3)), wide(txn(3, 8))), "b1 c1 b0 b2 c2 c0 ")
	moments(t, "one of no time", history(wide(txn(3, 9)), wide(txn(3, 3)), wide(txn(3, 8)), wide(txn(0, 2))), "b3 c3 b1 c1 b0 b2 c2 c0 ")
	moments(t, "at 0", history(wide(txn(0, 1)), wide(txn(0, 0)), wide(txn(0, 2))), "b1 c1 b0 b2 c0 c2 ")
	moments(t, "at MaxTime", history(wide(txn(api.MaxTime, api.MaxTime)), wide(txn(0, api.MaxTime-1))), "b1 c1 b0 c0 ")
	moments(t, "those that have committed alone", history(wide(fated(api.FOpen, txn(0, 4))), wide(txn(1, 2)), fated(api.FAborted, txn(0, 5))), "b1 c1 ")
	// what is committed at a begin's timestamp is seen there
	moments(t, "seen", history(wide(txn(0, 2, w("x"))), wide(txn(2, 5, r("x", 0, 1), s("", "", ver("x", 0, 1))))), "b0 c0 b1 c1 ")
	moments(t, "not seen", history(wide(txn(0, 3, w("x"))), wide(txn(2, 5, s("", "")))), "b0 b1 c0 c1 ")
}

func TestPlaces(t *testing.T) {
	h := history(placed(txn(1, 2), 3, 4, 5, 6), placed(txn(3, 4), 0, 5, 5, 9))
	embeds(t, "they just fit", h, api.OK, point(0, false, 3), point(0, true, 5), point(1, false, 5), point(1, true, 5))
	h.Txns[0].EndIn = 6
	embeds(t, "a begin that is answered too early", h, api.ErrPoints)
	h.Txns[1] = placed(h.Txns[1], 0, 6, 6, 6)
	embeds(t, "they just fit again", h, api.OK, point(0, false, 3), point(0, true, 6), point(1, false, 6), point(1, true, 6))
	h.Txns[0] = placed(h.Txns[0], 3, 4, 7, 0)
	embeds(t, "a call that is not answered", h, api.ErrPoints)
	h.Txns[1] = placed(h.Txns[1], 0, 7, 7, 0)
	embeds(t, "two calls that are not answered", h, api.OK, point(0, false, 3), point(0, true, 7), point(1, false, 7), point(1, true, 7))
	// a commit that is answered ahead of what is earlier by the timestamps
	h = history(placed(txn(1, 5), 0, 1, 2, 3), placed(txn(2, 4), 4, 5, 6, 7))
	embeds(t, "a commit that is answered too early", h, api.ErrPoints)
	h.Txns[0].EndOut = 5
	embeds(t, "a commit that is answered too early", h, api.ErrPoints)
	h.Txns[0].EndOut = 6
	embeds(t, "the greatest lower bound up to it", h, api.OK, point(0, false, 0), point(1, false, 4), point(1, true, 6), point(0, true, 6))
	h.Txns[0].EndOut = 0
	embeds(t, "not answered: as high as you like", h, api.OK, point(0, false, 0), point(1, false, 4), point(1, true, 6), point(0, true, 6))
	max := api.MaxPlace
	h = history(placed(txn(1, 2), 0, max, max, 0), placed(txn(3, 4), max, max, max, max), placed(txn(5, 6), 7, max, max, 0))
	embeds(t, "MaxPlace", h, api.OK, point(0, false, 0), point(0, true, max), point(1, false, max), point(1, true, max), point(2, false, max), point(2, true, max))
	h.Txns[2].BeginOut = max - 1
	embeds(t, "below MaxPlace", h, api.ErrPoints)
	h = history(placed(txn(1, 2), 0, 0, 0, 0), placed(txn(3, 4), 0, 0, 0, 1))
	embeds(t, "all at 0", h, api.OK, point(0, false, 0), point(0, true, 0), point(1, false, 0), point(1, true, 0))
	// places that do not fit stand ahead of all else, and count for every level
	h = history(first(), placed(txn(2, 5, w("x"), r("x", 1, 1)), 0, 0, 10, 11), txn(3, 4, w("x")))
	embeds(t, "places stand ahead of overlaps", h, api.ErrPoints)
	h.Txns[1].Iso = rc
	embeds(t, "places of ReadCommitted", h, api.ErrPoints)
}

func TestOverlaps(t *testing.T) {
	one, two := txn(2, 5, w("x")), txn(3, 4, w("x"))
	embeds(t, "two writers", history(first(), one, two), api.ErrOverlap)
	moments(t, "other keys", history(first(), one, txn(3, 4, w("y"), w("x\x00"))), "b0 c0 b1 b2 c2 c1 ")
	moments(t, "the one who is overlapped is ReadCommitted", history(first(), as(rc, one), two), "b0 c0 b1 b2 c2 c1 ")
	embeds(t, "the other one is ReadCommitted", history(first(), one, as(rc, two)), api.ErrOverlap)
	moments(t, "the other one has aborted", history(first(), one, fated(api.FAborted, two)), "b0 c0 b1 c1 ")
	embeds(t, "deletes", history(first(), txn(2, 5, d("x")), txn(3, 4, w("x"), d("x"))), api.ErrOverlap)
	moments(t, "ends at the begin", history(first(), txn(4, 5, w("x")), txn(3, 4, w("x"))), "b0 c0 b2 c2 b1 c1 ")
	embeds(t, "one of no time within", history(first(), one, placed(txn(3, 3, w("x")), 6, 6, 6, 7)), api.ErrOverlap)
	moments(t, "one of no time behind", history(placed(txn(3, 3, w("x")), 9, 9, 9, 9), wide(txn(1, 2, w("x")))), "b1 c1 b0 c0 ")
	embeds(t, "several commits between", history(first(), txn(2, 9, w("x")), txn(3, 4, w("y")), txn(5, 6, w("x")), txn(7, 8, w("z"))), api.ErrOverlap)
}

// In the order of the commits; of one transaction the overlap stands ahead of what it was told.
func TestFirstErrorOfEmbed(t *testing.T) {
	wrong := r("y", 3, 1)
	later := txn(100, 101, w("y"))
	h := history(first(), txn(2, 5, wrong, w("x")), txn(3, 4, w("x")), later)
	embeds(t, "an overlap, and another version", h, api.ErrOverlap)
	h = history(first(), txn(2, 5, w("x")), txn(3, 4, wrong, w("x")), later)
	embeds(t, "another version is committed first", h, api.ErrOther)
	h = history(first(), txn(2, 8, wrong), txn(2, 5, w("x")), later, txn(3, 4, w("x")))
	embeds(t, "an overlap is committed first", h, api.ErrOverlap)
}

// What stood at the begin, its own writes laid over.
func TestAnswersAtBegin(t *testing.T) {
	past, later := txn(2, 3, w("x"), d("y"), w("z")), []api.HOp{w("x"), w("y"), d("z"), w("u")}
	cases := []struct {
		what string
		ops  []api.HOp
		code api.Errno
	}{
		{"a read", []api.HOp{r("x", 1, 1)}, api.OK},
		{"a read of an older one", []api.HOp{r("x", 0, 1)}, api.ErrOther},
		{"a read of a newer one", []api.HOp{r("x", 2, 1)}, api.ErrOther},
		{"a read of a deleted one", []api.HOp{r("y", 0, 1)}, api.ErrOther},
		{"a read of its own", []api.HOp{w("y"), r("y", 3, 1), w("y"), r("y", 3, 2)}, api.ErrOverlap},
		{"a read of its own", []api.HOp{w("v"), r("v", 3, 1), w("v"), r("v", 3, 2)}, api.OK},
		{"a scan", []api.HOp{s("", "", ver("x", 1, 1), ver("z", 1, 1))}, api.OK},
		{"a scan that lacks one", []api.HOp{at(s("z", ""), 12)}, api.ErrOther},
		{"a scan of one too many", []api.HOp{s("", "", ver("u", 2, 1), ver("x", 1, 1), ver("z", 1, 1))}, api.ErrOther},
		{"a scan of one too many", []api.HOp{s("", "", ver("x", 1, 1), ver("y", 0, 1), ver("z", 1, 1))}, api.ErrOther},
		{"a scan of an older one", []api.HOp{s("", "", ver("x", 0, 1), ver("z", 1, 1))}, api.ErrOther},
		{"a scan of a newer one", []api.HOp{s("", "", ver("x", 2, 1), ver("z", 1, 1))}, api.ErrOther},
		{"a scan of a range", []api.HOp{s("x", "z", ver("x", 1, 1))}, api.OK},
		{"a scan of no range", []api.HOp{s("z", "x")}, api.OK},
		{"a scan of its own", []api.HOp{w("v"), d("w"), s("", "", ver("v", 3, 1), ver("x", 1, 1), ver("z", 1, 1)), d("v"), s("", "", ver("x", 1, 1), ver("z", 1, 1))}, api.OK},
		{"a wrong one behind right ones", []api.HOp{r("x", 1, 1), s("z", "", ver("z", 1, 1)), r("x", 0, 1)}, api.ErrOther},
	}
	for _, c := range cases {
		h := history(first(), past, txn(11, 12, later...), txn(10, 13, c.ops...))
		checks(t, c.what, h, api.OK, 0, 0)
		points, e := adya.Embed(h)
		want(t, "P14.9: "+c.what, []any{len(points), e}, []any{map[bool]int{true: 8}[c.code == api.OK], c.code})
		h.Txns[3].Iso = rc
		_, e = adya.Embed(h)
		want(t, "P14.9: ReadCommitted: "+c.what, e, api.OK)
	}
}

// What is not installed is never right.
func TestEmbedOfVersionsNotInstalled(t *testing.T) {
	for _, h := range []api.History{
		history(first(), fated(api.FAborted, txn(2, 3, w("x"))), txn(4, 5, r("x", 1, 1))),
		history(first(), txn(2, 3, w("x"), w("x")), txn(4, 5, r("x", 1, 1))),
		history(first(), txn(2, 3, w("u"), d("u")), txn(4, 5, s("u", "v", ver("u", 1, 1)))),
	} {
		embeds(t, "not installed", h, api.ErrOther)
		_, e := adya.Search(h)
		want(t, "P14.10: not installed", e, api.ErrOther)
		h.Txns[2].Iso = rc
		_, e = adya.Embed(h)
		want(t, "P14.9: not installed, ReadCommitted", e, api.OK)
	}
}

// searches looks at what Search tells.
func searches(t *testing.T, what string, h api.History, code api.Errno) {
	t.Helper()
	checks(t, what, h, api.OK, 0, 0)
	if fault := faultOfSearch(h); fault != "" {
		t.Errorf("P14.10: %s: %s", what, fault)
	}
	_, e := adya.Search(h)
	want(t, "P14.10: "+what, e, code)
}

func TestSearch(t *testing.T) {
	searches(t, "as the timestamps have it", writeSkew(), api.OK)
	h := history(wide(txn(2, 9, w("x"))), placed(txn(4, 5, r("x", 0, 1)), 0, 20, 21, 30))
	embeds(t, "against the timestamps", h, api.ErrOther)
	searches(t, "against the timestamps", h, api.OK)
	h.Txns[1].BeginOut, h.Txns[1].EndIn, h.Txns[1].EndOut = 8, 8, 9
	searches(t, "the calls do not allow it", h, api.ErrOther)
	h.Txns[1].BeginOut, h.Txns[1].EndIn = 9, 9
	searches(t, "the calls just allow it", h, api.OK)
	lost := lostUpdate()
	searches(t, "a lost update, whatever the order", lost, api.ErrOther)
	for i := range lost.Txns {
		lost.Txns[i] = wide(lost.Txns[i])
	}
	searches(t, "a lost update, whatever the order", lost, api.ErrOther)
	over := history(wide(txn(1, 9, w("x"))), wide(txn(2, 8, w("x"))), wide(txn(3, 7, w("x"))), wide(txn(4, 6, w("x"), w("y"))))
	embeds(t, "one behind the other", over, api.ErrOverlap)
	searches(t, "one behind the other", over, api.OK)
	over.Txns[0].Ops = append(over.Txns[0].Ops, api.HOp{Kind: api.ORead, Ver: ver("y", 3, 1), Value: "y", At: 4})
	over.Txns[2].Ops = append([]api.HOp{{Kind: api.ORead, Ver: ver("x", 0, 1), Value: "x", At: 4}}, over.Txns[2].Ops...)
	searches(t, "in one order alone", over, api.OK)
	over.Txns[3].Ops = append([]api.HOp{{Kind: api.ORead, Ver: ver("x", 2, 1), Value: "x", At: 4}}, over.Txns[3].Ops...)
	searches(t, "in no order", over, api.ErrOther)
	over.Txns[3].Iso = rc
	searches(t, "in no order, but for ReadCommitted", over, api.OK)
	over.Txns = append(over.Txns, fated(api.FOpen, txn(1, 2)), fated(api.FAborted, txn(1, 2)))
	searches(t, "four that have committed", over, api.OK)
	over.Txns = append(over.Txns, wide(txn(1, 2)))
	searches(t, "five that have committed", over, api.ErrBig)
	searches(t, "one", history(wide(txn(1, 2, s("", ""), w("x")))), api.OK)
}

// The order of a key's versions is that of the commits.
func TestSearchOrdersVersions(t *testing.T) {
	h := history(wide(txn(1, 2, w("x"))), wide(txn(3, 4, w("x"))), wide(txn(5, 6, r("x", 0, 1))), wide(txn(7, 8, r("x", 1, 1))))
	searches(t, "both orders are needed", h, api.OK)
	h.Txns[2] = wide(txn(5, 6, r("x", 0, 1), w("a")))
	h.Txns[3] = wide(txn(7, 8, r("x", 1, 1), r("a", 2, 1)))
	searches(t, "1 behind 0", h, api.OK)
	h.Txns[2] = wide(txn(5, 6, r("x", 0, 1), r("a", 3, 1)))
	h.Txns[3] = wide(txn(7, 8, r("x", 1, 1), w("a")))
	searches(t, "0 behind 1", h, api.OK)
	h.Txns[2] = wide(txn(5, 6, r("x", 0, 1), w("a"), r("b", 3, 1)))
	h.Txns[3] = wide(txn(7, 8, r("x", 1, 1), w("b"), r("a", 2, 1)))
	searches(t, "in no order", h, api.ErrOther)
}
