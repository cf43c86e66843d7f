package expire_test

import (
	"math"
	"slices"
	"testing"

	"catacomb/api"
	"catacomb/expire"
	"catacomb/hold"
	"catacomb/tier"
)

const (
	least    = math.MinInt64
	greatest = math.MaxInt64
	maxTime  = 1099511627776 // 2 to the power of 40
	most     = 256           // points of a stock, and aggregates of a tier
	mid      = 300           // ticks of a Mid window
	long     = 3600          // ticks of a Long window
)

// widths are how many ticks the tiers' windows have.
var widths = [3]int64{1, mid, long}

// wide is a range of all numbers but the greatest.
var wide = api.Range{From: least, To: greatest}

// lists are all that a stock has, as plain lists, by tiers: points by where they are, aggregates by where they begin.
type lists struct {
	points []api.Point
	aggs   [3][]api.Agg // of Raw none
	marks  [3]int64
}

// told is all that a stock tells.
func told(t *testing.T, s *tier.Stock) lists {
	t.Helper()
	l := lists{points: s.Points(wide)}
	for i := range 3 {
		l.aggs[i] = s.Aggs(i, wide)
		l.marks[i] = s.Mark(i)
		if got := s.Len(i); got != len(l.ends(i)) {
			t.Fatalf("Len(%d): %d of %v", i, got, l)
		}
	}
	if got := s.Bytes(); got != 16*len(l.points)+40*(len(l.aggs[1])+len(l.aggs[2])) {
		t.Fatalf("Bytes: %d of %v", got, l)
	}
	return l
}

// stock is a stock of these.
func (l lists) stock(t *testing.T) *tier.Stock {
	t.Helper()
	s, e := tier.Restore(l.points, l.aggs[1], l.aggs[2], l.marks)
	if e != api.OK {
		t.Fatalf("Restore of %v: %d", l, int(e))
	}
	return s
}

// same tells whether two are the same, nothing being the same as an empty list.
func (l lists) same(k lists) bool {
	same := slices.Equal(l.points, k.points) && l.marks == k.marks
	for i := range 3 {
		same = same && slices.Equal(l.aggs[i], k.aggs[i])
	}
	return same
}

// ends are where the windows of what a tier has end.
func (l lists) ends(of int) []int64 {
	var ends []int64
	if of == 0 {
		for _, p := range l.points {
			ends = append(ends, p.At+1)
		}
	}
	for _, a := range l.aggs[of] {
		ends = append(ends, a.At+widths[of])
	}
	return ends
}

// numbers are those of a policy, by tiers.
func numbers(p api.Policy) [3]int64 { return [3]int64{p.Raw, p.Mid, p.Long} }

// gone tells whether what ends there isn't kept any more.
func gone(kept, end, now int64) bool { return kept > 0 && end <= now-kept }

// covered tells whether a hold of a series, or of all, has one of the ticks from one on, up to an end.
func covered(holds []api.Hold, series string, from, end int64) bool {
	for _, h := range holds {
		if h.Series != "" && h.Series != series {
			continue
		}
		if h.Range.From <= end-1 && h.Range.To-1 >= from {
			return true
		}
	}
	return false
}

// scene is what Series is handed in.
type scene struct {
	l      lists
	series string
	holds  []api.Hold
	p      api.Policy
	now    int64
}

// after is what is left of a scene's lists, gone through one by one, and how many went.
func (x scene) after() (lists, expire.Count) {
	var went expire.Count
	left := lists{marks: x.l.marks}
	for _, p := range x.l.points {
		if p.At < x.l.marks[1] && gone(x.p.Raw, p.At+1, x.now) && !covered(x.holds, x.series, p.At, p.At+1) {
			went[0]++
			continue
		}
		left.points = append(left.points, p)
	}
	for _, a := range x.l.aggs[1] {
		if a.At+mid <= x.l.marks[2] && gone(x.p.Mid, a.At+mid, x.now) && !covered(x.holds, x.series, a.At, a.At+mid) {
			went[1]++
			continue
		}
		left.aggs[1] = append(left.aggs[1], a)
	}
	for _, a := range x.l.aggs[2] {
		if gone(x.p.Long, a.At+long, x.now) && !covered(x.holds, x.series, a.At, a.At+long) {
			went[2]++
			continue
		}
		left.aggs[2] = append(left.aggs[2], a)
	}
	return left, went
}

// table is a table of some holds.
func table(t *testing.T, holds []api.Hold) *hold.Table {
	t.Helper()
	h := hold.New()
	for _, one := range holds {
		if e := h.Add(one); e != api.OK {
			t.Fatalf("Add(%v): %d", one, int(e))
		}
	}
	return h
}

// rising are holds by their names.
func rising(holds []api.Hold) []api.Hold {
	l := slices.Clone(holds)
	slices.SortFunc(l, func(a, b api.Hold) int {
		if a.Name < b.Name {
			return -1
		}
		return 1
	})
	return l
}

func checkCount(t *testing.T, what string, got, want expire.Count) {
	t.Helper()
	if got != want {
		t.Fatalf("%s: %v, want %v", what, got, want)
	}
}

func checkTold(t *testing.T, what string, s *tier.Stock, want lists) {
	t.Helper()
	if got := told(t, s); !got.same(want) {
		t.Fatalf("%s: the stock tells %v, want %v", what, got, want)
	}
}

func checkHolds(t *testing.T, what string, h *hold.Table, want []api.Hold) {
	t.Helper()
	if got := slices.Collect(h.All()); !slices.Equal(got, rising(want)) {
		t.Fatalf("%s: the table tells %v, want %v", what, got, want)
	}
}

// run holds Due and Series, and all that is told behind each of them, against the plain lists; the stock behind Series is answered.
func (x scene) run(t *testing.T) (*tier.Stock, expire.Count) {
	t.Helper()
	s, h := x.l.stock(t), table(t, x.holds)
	left, want := x.after()
	for range 2 {
		checkCount(t, "Due", expire.Due(s, x.series, h, x.p, x.now), want)
		checkTold(t, "behind Due", s, x.l)
	}
	got, e := expire.Series(s, x.series, h, x.p, x.now)
	if e != api.OK {
		t.Fatalf("Series(%v): %d", x, int(e))
	}
	checkCount(t, "Series", got, want)
	checkTold(t, "behind Series", s, left)
	// Nothing is due any more.
	checkCount(t, "Due behind Series", expire.Due(s, x.series, h, x.p, x.now), expire.Count{})
	if got, e := expire.Series(s, x.series, h, x.p, x.now); got != (expire.Count{}) || e != api.OK {
		t.Fatalf("Series once more: %v, %d", got, int(e))
	}
	checkTold(t, "behind Series once more", s, left)
	checkHolds(t, "behind Series", h, x.holds)
	if len(x.holds) == 0 {
		x.bare(t, want)
	}
	return s, want
}

// bare runs a scene without holds once more, without a table.
func (x scene) bare(t *testing.T, want expire.Count) {
	t.Helper()
	s := x.l.stock(t)
	left, _ := x.after()
	checkCount(t, "Due without a table", expire.Due(s, x.series, nil, x.p, x.now), want)
	got, e := expire.Series(s, x.series, nil, x.p, x.now)
	if e != api.OK {
		t.Fatalf("Series without a table: %d", int(e))
	}
	checkCount(t, "Series without a table", got, want)
	checkTold(t, "behind Series without a table", s, left)
}

// goes runs a scene of which it is known how many go.
func (x scene) goes(t *testing.T, want expire.Count) *tier.Stock {
	t.Helper()
	s, got := x.run(t)
	checkCount(t, "what the plain lists tell", got, want)
	return s
}
