package purge_test

import (
	"math"
	"slices"
	"testing"

	"catacomb/api"
	"catacomb/hold"
	"catacomb/purge"
	"catacomb/tier"
)

const (
	least    = math.MinInt64
	greatest = math.MaxInt64
	maxTime  = 1099511627776 // 2 to the power of 40
	lastLong = 1099511625600 // where the Long window of maxTime begins
	most     = 256           // points of a stock, and aggregates of a tier
	mid      = 300           // ticks of a Mid window
	long     = 3600          // ticks of a Long window
)

// wide is a range of all numbers but the greatest, and whole one of all ticks that there are.
var (
	wide  = api.Range{From: least, To: greatest}
	whole = api.Range{From: 0, To: maxTime + 1}
)

// lists are all that a stock has, as plain lists.
type lists struct {
	points      []api.Point
	mids, longs []api.Agg
	marks       [3]int64
}

// told is all that a stock tells.
func told(t *testing.T, s *tier.Stock) lists {
	t.Helper()
	l := lists{points: s.Points(wide), mids: s.Aggs(api.Mid, wide), longs: s.Aggs(api.Long, wide)}
	for i, n := range [3]int{len(l.points), len(l.mids), len(l.longs)} {
		l.marks[i] = s.Mark(i)
		if got := s.Len(i); got != n {
			t.Fatalf("Len(%d): %d of %v", i, got, l)
		}
	}
	if got := s.Bytes(); got != 16*len(l.points)+40*len(l.mids)+40*len(l.longs) {
		t.Fatalf("Bytes: %d of %v", got, l)
	}
	return l
}

// stock is a stock of these.
func (l lists) stock(t *testing.T) *tier.Stock {
	t.Helper()
	s, e := tier.Restore(l.points, l.mids, l.longs, l.marks)
	if e != api.OK {
		t.Fatalf("Restore of %v: %d", l, int(e))
	}
	return s
}

// same tells whether two are the same, nothing being the same as an empty list.
func (l lists) same(k lists) bool {
	return slices.Equal(l.points, k.points) && slices.Equal(l.mids, k.mids) && slices.Equal(l.longs, k.longs) && l.marks == k.marks
}

// within are the points of a range.
func (l lists) within(r api.Range) []api.Point {
	var in []api.Point
	for _, p := range l.points {
		if p.At >= r.From && p.At < r.To {
			in = append(in, p)
		}
	}
	return in
}

// right tells whether a range may be purged.
func right(r api.Range) bool {
	return r.From >= 0 && r.From < r.To && r.To-1 <= maxTime
}

// reach is the whole Long windows of a range that may be purged.
func reach(r api.Range) api.Range {
	if !right(r) {
		return api.Range{}
	}
	return api.Range{From: r.From / long * long, To: (r.To + long - 1) / long * long}
}

// common tells whether there is a tick in both of two ranges that have some.
func common(a, b api.Range) bool {
	return a.From <= b.To-1 && b.From <= a.To-1
}

// plus is a sum, or the nearest number.
func plus(a, b int64) int64 {
	if b > 0 && a > greatest-b {
		return greatest
	}
	if b < 0 && a < least-b {
		return least
	}
	return a + b
}

// comes is what those parts that begin in a window come to, and whether there are some.
func comes(from, width int64, parts []api.Agg) (api.Agg, bool) {
	var all api.Agg
	for _, a := range parts {
		if a.At < from || a.At >= from+width {
			continue
		}
		if all.Count == 0 {
			all = a
			all.At = from
			continue
		}
		all.Count, all.Sum = plus(all.Count, a.Count), plus(all.Sum, a.Sum)
		all.Min, all.Max = min(all.Min, a.Min), max(all.Max, a.Max)
	}
	return all, all.Count > 0
}

// renewed is what aggregates become by a purge of a range, of the parts that are left, and how many changed, or went.
func renewed(l []api.Agg, width int64, r api.Range, parts []api.Agg) (left []api.Agg, altered int) {
	for _, a := range l {
		is, stays := a, true
		if common(api.Range{From: a.At, To: a.At + width}, r) {
			is, stays = comes(a.At, width, parts)
		}
		if stays {
			left = append(left, is)
		}
		if is != a {
			altered++
		}
	}
	return left, altered
}

// purged is what is left behind a purge of a range that may be, and what went.
func (l lists) purged(r api.Range) (lists, purge.Report) {
	left := lists{marks: l.marks}
	var ones []api.Agg
	for _, p := range l.points {
		if p.At >= r.From && p.At < r.To {
			continue
		}
		left.points = append(left.points, p)
		ones = append(ones, api.Agg{At: p.At, Count: 1, Sum: p.Value, Min: p.Value, Max: p.Value})
	}
	var mids, longs int
	left.mids, mids = renewed(l.mids, mid, r, ones)
	left.longs, longs = renewed(l.longs, long, r, left.mids)
	return left, purge.Report{Points: len(l.points) - len(left.points), Windows: mids + longs}
}

// scene is what Do is handed in.
type scene struct {
	l      lists
	series string
	holds  []api.Hold
	r      api.Range
}

// refused is the error that Check tells.
func (x scene) refused() api.Errno {
	if !right(x.r) {
		return api.ErrRange
	}
	for _, h := range x.holds {
		if (h.Series == "" || h.Series == x.series) && common(h.Range, reach(x.r)) {
			return api.ErrHeld
		}
	}
	return api.OK
}

// table is a table of some holds.
func table(t *testing.T, holds []api.Hold) *hold.Table {
	t.Helper()
	h := hold.New()
	for _, one := range holds {
		if e := h.Add(one); e != api.OK {
			t.Fatalf("Add(%v): %d", one, int(e))
		}
	}
	return h
}

func checkReport(t *testing.T, what string, got, want purge.Report) {
	t.Helper()
	if got != want {
		t.Fatalf("%s: %v, want %v", what, got, want)
	}
}

// checkDo calls Do.
func checkDo(t *testing.T, x scene, s *tier.Stock, h *hold.Table, want purge.Report, e api.Errno) {
	t.Helper()
	if got, f := purge.Do(s, x.series, h, x.r); got != want || f != e {
		t.Fatalf("Do of %q, %v, with holds %v, on %v: %v, %d, want %v, %d", x.series, x.r, x.holds, x.l, got, int(f), want, int(e))
	}
}

func checkTold(t *testing.T, what string, s *tier.Stock, want lists) {
	t.Helper()
	if got := told(t, s); !got.same(want) {
		t.Fatalf("%s: the stock tells %v, want %v", what, got, want)
	}
}

// checkHolds holds all that a table tells against holds that are rising by names.
func checkHolds(t *testing.T, what string, h *hold.Table, want []api.Hold) {
	t.Helper()
	if got := slices.Collect(h.All()); !slices.Equal(got, want) || h.Len() != len(want) {
		t.Fatalf("%s: the table tells %v, want %v", what, got, want)
	}
}

// checkClean asks twice, since nothing changes by it.
func checkClean(t *testing.T, what string, s *tier.Stock, r api.Range, want bool) {
	t.Helper()
	for range 2 {
		if got := purge.Clean(s, r); got != want {
			t.Fatalf("Clean of %v, %s: %v", r, what, got)
		}
	}
}

// checkAsk holds what Reach, Check, Plan and Clean tell ahead of Do; nothing changes by it.
func (x scene) checkAsk(t *testing.T, s *tier.Stock, h *hold.Table) {
	t.Helper()
	if got := purge.Reach(x.r); got != reach(x.r) {
		t.Fatalf("Reach of %v: %v", x.r, got)
	}
	var plan purge.Report
	if right(x.r) {
		_, plan = x.l.purged(x.r)
	}
	for range 2 {
		if e := purge.Check(h, x.series, x.r); e != x.refused() {
			t.Fatalf("Check of %q, %v, with holds %v: %d, want %d", x.series, x.r, x.holds, int(e), int(x.refused()))
		}
		checkReport(t, "Plan", purge.Plan(s, x.r), plan)
		checkClean(t, "ahead of Do", s, x.r, len(x.l.within(x.r)) == 0)
		checkTold(t, "behind what was asked", s, x.l)
	}
}

// run holds each call, and all that is told behind it, against the plain lists; the stock behind Do is answered, with what Do told.
func (x scene) run(t *testing.T) (*tier.Stock, purge.Report, api.Errno) {
	t.Helper()
	s, h := x.l.stock(t), table(t, x.holds)
	x.checkAsk(t, s, h)
	left, did, e := x.l, purge.Report{}, x.refused()
	if e == api.OK {
		left, did = x.l.purged(x.r)
	}
	checkDo(t, x, s, h, did, e)
	checkTold(t, "behind Do", s, left)
	// Another one finds nothing more to do, or is refused again.
	behind := x
	behind.l = left
	behind.checkAsk(t, s, h)
	checkDo(t, x, s, h, purge.Report{}, e)
	checkTold(t, "behind another Do", s, left)
	if e == api.OK {
		checkClean(t, "behind Do", s, x.r, true)
	}
	checkHolds(t, "behind Do", h, x.holds)
	x.checkStays(t, left)
	if len(x.holds) == 0 {
		bare := x.l.stock(t)
		x.checkAsk(t, bare, nil)
		checkDo(t, x, bare, nil, did, e)
		checkTold(t, "behind Do without a table", bare, left)
	}
	return s, did, e
}

// checkStays looks whether all that is without the reach, and all that is held, is told as it was.
func (x scene) checkStays(t *testing.T, left lists) {
	t.Helper()
	stays := func(from, width int64) bool {
		w := api.Range{From: from, To: from + width}
		if !common(w, reach(x.r)) {
			return true
		}
		return slices.ContainsFunc(x.holds, func(h api.Hold) bool {
			return (h.Series == "" || h.Series == x.series) && common(w, h.Range)
		})
	}
	for _, p := range x.l.points {
		if stays(p.At, 1) && !slices.Contains(left.points, p) {
			t.Fatalf("%v went by %v, with holds %v", p, x.r, x.holds)
		}
	}
	for _, a := range x.l.mids {
		if stays(a.At, mid) && !slices.Contains(left.mids, a) {
			t.Fatalf("%v of Mid went by %v, with holds %v", a, x.r, x.holds)
		}
	}
	for _, a := range x.l.longs {
		if stays(a.At, long) && !slices.Contains(left.longs, a) {
			t.Fatalf("%v of Long went by %v, with holds %v", a, x.r, x.holds)
		}
	}
}

// does runs a scene of which it is known what goes.
func (x scene) does(t *testing.T, points, windows int) *tier.Stock {
	t.Helper()
	s, got, e := x.run(t)
	if want := (purge.Report{Points: points, Windows: windows}); got != want || e != api.OK {
		t.Fatalf("%v of %v: %v, %d, want %v", x.r, x.l, got, int(e), want)
	}
	return s
}

// fails runs a scene of which it is known that it is refused.
func (x scene) fails(t *testing.T, want api.Errno) {
	t.Helper()
	if s, _, e := x.run(t); e != want {
		t.Fatalf("%q, %v, with holds %v: %d, want %d", x.series, x.r, x.holds, int(e), int(want))
	} else {
		checkTold(t, "behind an error", s, x.l)
	}
}
