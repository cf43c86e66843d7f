package purge_test

import (
	"slices"
	"testing"

	"catacomb/api"
	"catacomb/purge"
	"catacomb/tier"
)

// hidden is points with other values in a range.
func hidden(l []api.Point, r api.Range, value func() int64) []api.Point {
	l = slices.Clone(l)
	for i := range l {
		if l[i].At >= r.From && l[i].At < r.To {
			l[i].Value = value()
		}
	}
	return l
}

// pair is two stocks that are told the same, but for the values in a range.
type pair struct {
	t    *testing.T
	a, b *tier.Stock
}

// step does one act by chance to both; points in hide have other values in each.
func (x pair) step(c chance, hide api.Range) {
	x.t.Helper()
	switch c.Intn(7) {
	case 0, 1, 2:
		from := x.a.Mark(api.Mid)
		l := slices.DeleteFunc(c.points(10), func(p api.Point) bool { return p.At < from })
		n, e := x.a.Put(l)
		if m, f := x.b.Put(hidden(l, hide, c.value)); n != m || e != f {
			x.t.Fatalf("Put: %d, %d and %d, %d", n, int(e), m, int(f))
		}
	case 3, 4:
		now := min(x.a.Mark(api.Mid)+c.Int63n(2000), maxTime)
		n, e := x.a.Roll(now)
		if m, f := x.b.Roll(now); n != m || e != f {
			x.t.Fatalf("Roll: %d, %d and %d, %d", n, int(e), m, int(f))
		}
	case 5:
		i, lot := c.Intn(3), 2+c.Int63n(9)
		gone := func(r api.Range) bool { return r.From%lot == 0 }
		if n, m := x.a.Drop(i, gone), x.b.Drop(i, gone); n != m {
			x.t.Fatalf("Drop: %d and %d", n, m)
		}
	case 6:
		x.purge(c.within())
	}
}

// purge plans and does the same to both.
func (x pair) purge(r api.Range) {
	x.t.Helper()
	checkReport(x.t, "Plan of the other one", purge.Plan(x.b, r), purge.Plan(x.a, r))
	n, e := purge.Do(x.a, "cpu", nil, r)
	if m, f := purge.Do(x.b, "cpu", nil, r); n != m || e != f {
		x.t.Fatalf("Do of %v: %v, %d and %v, %d", r, n, int(e), m, int(f))
	}
	if purge.Clean(x.a, r) != purge.Clean(x.b, r) {
		x.t.Fatalf("Clean of %v tells two answers", r)
	}
}

// P20.2: two stocks that were told the same, but for the values in a range, are alike behind its purge, and however both go on.
func TestPairs(t *testing.T) {
	for seed := range int64(3000) {
		c := by(seed)
		hide := c.within()
		x := pair{t, lists{marks: [3]int64{0, c.base, c.base}}.stock(t), lists{marks: [3]int64{0, c.base, c.base}}.stock(t)}
		for range 5 + c.Intn(25) {
			x.step(c, hide)
		}
		r := hide
		if c.Intn(3) == 0 {
			r = to(max(0, r.From-int64(c.Intn(400))), min(r.To+int64(c.Intn(400)), maxTime+1))
		}
		x.purge(r)
		checkTold(t, "the other one", x.b, told(t, x.a))
		for range 10 {
			x.step(c, api.Range{})
			checkTold(t, "the other one, gone on with", x.b, told(t, x.a))
		}
	}
}

// P20.2: what went doesn't come back in sums, nor as the least or the greatest value, be it ever so great.
func TestNothingOfValues(t *testing.T) {
	values := []int64{0, 1, -1, 77, least, least + 1, greatest, greatest - 1}
	beside := []api.Point{{At: 0, Value: greatest}, {At: 100, Value: 5}, {At: 599, Value: least}, {At: 650, Value: -4}, {At: 3600, Value: 1}}
	bare := rolled(t, 7200, beside)
	for _, a := range values {
		for _, b := range values {
			l := append([]api.Point{{At: 101, Value: a}, {At: 400, Value: b}, {At: 598, Value: a}}, beside...)
			s := scene{l: rolled(t, 7200, l), series: "cpu", r: to(101, 599)}.does(t, 3, 3)
			checkTold(t, "behind Do", s, bare)
		}
	}
}

// P20.2: where nothing was dropped, a stock is as if the points hadn't been there.
func TestAsIfNot(t *testing.T) {
	for seed := range int64(1000) {
		c := by(seed)
		hide := c.within()
		had := lists{marks: [3]int64{0, c.base, c.base}}.stock(t)
		bare := had.Copy()
		for range 12 {
			from := had.Mark(api.Mid)
			l := slices.DeleteFunc(c.points(12), func(p api.Point) bool { return p.At < from })
			had.Put(l)
			bare.Put(slices.DeleteFunc(l, func(p api.Point) bool { return p.At >= hide.From && p.At < hide.To }))
			now := min(from+c.Int63n(1500), maxTime)
			had.Roll(now)
			bare.Roll(now)
		}
		if _, e := purge.Do(had, "cpu", nil, hide); e != api.OK {
			t.Fatalf("Do: %d", int(e))
		}
		checkTold(t, "behind Do", had, told(t, bare))
		had.Roll(maxTime)
		bare.Roll(maxTime)
		checkTold(t, "rolled further", had, told(t, bare))
	}
}

// P20.2: of aggregates that were restored with other values, too, nothing is left in windows that the range meets.
func TestRestoredValues(t *testing.T) {
	r := to(500, 3700)
	var want lists
	for i, value := range []int64{0, 1, least, greatest} {
		l := usual(t)
		for j := range l.mids {
			if l.mids[j].At >= 300 && l.mids[j].At <= 3600 {
				l.mids[j] = api.Agg{At: l.mids[j].At, Count: 3, Sum: value, Min: value, Max: value}
			}
		}
		for j := range l.longs {
			l.longs[j] = api.Agg{At: l.longs[j].At, Count: 9, Sum: value, Min: value, Max: value}
		}
		s := scene{l: l, series: "cpu", r: r}.does(t, 2, 5)
		if i == 0 {
			want = told(t, s)
		}
		checkTold(t, "behind Do", s, want)
	}
	if !slices.Equal(sums(want.mids), []int64{3, 4, 32}) || !slices.Equal(sums(want.longs), []int64{7, 32}) {
		t.Fatalf("behind Do the sums are %v, %v", sums(want.mids), sums(want.longs))
	}
}

// P20.2: a range that was purged is clean till there is a point again; below Mid's mark none comes back.
func TestCleanTill(t *testing.T) {
	s := usual(t).stock(t)
	r := to(7000, 8000)
	checkDo(t, scene{r: r}, s, nil, purge.Report{Points: 3, Windows: 2}, api.OK)
	for _, now := range []int64{7200, 7500, 10_800} {
		if _, e := s.Roll(now); e != api.OK {
			t.Fatalf("Roll: %d", int(e))
		}
		checkClean(t, "rolled further", s, r, true)
		if n, e := s.Put(points(7199)); n != 0 || e != api.ErrState {
			t.Fatalf("Put of what was purged: %d, %d", n, int(e))
		}
	}
	s = usual(t).stock(t)
	checkDo(t, scene{r: r}, s, nil, purge.Report{Points: 3, Windows: 2}, api.OK)
	was := told(t, s)
	if n, e := s.Put([]api.Point{{At: 7200, Value: 5}}); n != 1 || e != api.OK {
		t.Fatalf("Put of a tick that was purged: %d, %d", n, int(e))
	}
	checkClean(t, "with a point again", s, r, false)
	checkDo(t, scene{r: r}, s, nil, purge.Report{Points: 1}, api.OK)
	checkTold(t, "purged again", s, was)
}
