package expire_test

import (
	"fmt"
	"slices"
	"testing"

	"catacomb/api"
	"catacomb/expire"
)

// P19.1: the last windows of all aren't over at MaxTime.
func TestLastWindows(t *testing.T) {
	x := scene{series: "cpu", p: of(1, 1, 1), now: maxTime}
	x.l.points = points(maxTime-3, maxTime-2, maxTime-1, maxTime)
	x.l.aggs[1] = aggs(1_099_511_627_100, 1_099_511_627_400, 1_099_511_627_700, 1_099_511_628_000, 1_099_511_631_000)
	x.l.aggs[2] = aggs(1_099_511_618_400, 1_099_511_622_000, 1_099_511_625_600)
	x.l.marks = [3]int64{0, 1_099_511_631_300, 1_099_511_629_200}
	x.goes(t, expire.Count{2, 2, 2})
	x.l.marks[2] = 1_099_511_625_600
	x.l.aggs[2] = aggs(1_099_511_618_400, 1_099_511_622_000)
	x.goes(t, expire.Count{2, 0, 2})
	x.holds = []api.Hold{held("", maxTime-3, maxTime+1)}
	x.goes(t, expire.Count{0, 0, 2})
	x.holds = []api.Hold{held("", 0, maxTime+1)}
	x.goes(t, expire.Count{})
}

// P19.2: a hold of one tick on a point, and beside it at either end.
func TestHoldPoint(t *testing.T) {
	for _, at := range []int64{0, 1, 299, 300, 301, 3599, 3600, 7199} {
		x := scene{l: lists{points: points(at), marks: [3]int64{0, 7200, 7200}}, series: "cpu", p: of(1, 1, 1), now: maxTime}
		for from := max(at-2, 0); from <= at+2; from++ {
			for to := from + 1; to <= at+4; to++ {
				want := expire.Count{1, 0, 0}
				if from <= at && at < to {
					want = expire.Count{}
				}
				x.holds = []api.Hold{held("cpu", from, to)}
				x.goes(t, want)
			}
		}
	}
}

// P19.2: a hold that has a tick in common with a window of one, at either end, within, or around it, and one that has none.
func TestHoldWindow(t *testing.T) {
	for i, width := range []int64{mid, long} {
		tier := i + 1
		for _, at := range []int64{0, width, 2 * width, 12 * width} {
			x := scene{l: lists{marks: [3]int64{0, 20 * width, 0}}, series: "cpu", p: of(1, 1, 1), now: maxTime}
			x.l.marks = [3]int64{0, 72_000, 72_000}
			x.l.aggs[tier] = aggs(at)
			var all expire.Count
			all[tier] = 1
			end := at + width
			for _, row := range []struct {
				from, to int64
				stays    bool
			}{
				{at, at + 1, true}, {end - 1, end, true}, {at, end, true}, {at + 1, end - 1, true}, {at + 100, at + 101, true},
				{at, end + 1, true}, {end - 1, end + 1, true}, {end - 1, maxTime + 1, true}, {0, maxTime + 1, true}, {0, at + 1, true},
				{end, end + 1, false}, {end + 1, end + 2, false}, {end, maxTime + 1, false}, {end, end + width, false},
				{at - 1, at, false}, {at - 2, at - 1, false}, {0, at, false}, {at - width, at, false},
				{at - 1, at + 1, true}, {at - 1, end, true}, {at - 1, end + 1, true}, {at - width, end + width, true},
			} {
				if row.from < 0 || row.from >= row.to {
					continue
				}
				x.holds = []api.Hold{held("cpu", row.from, row.to)}
				if row.stays {
					x.goes(t, expire.Count{})
				} else {
					x.goes(t, all)
				}
			}
		}
	}
}

// P19.2: one tick that is held keeps its point, its Mid aggregate and its Long one, and nothing else.
func TestHoldAllTiers(t *testing.T) {
	x := scene{l: usual(), series: "cpu", p: of(1, 1, 1), now: maxTime}
	for _, row := range []struct {
		at   int64
		want expire.Count
	}{
		{0, expire.Count{5, 4, 1}}, {1, expire.Count{6, 4, 1}}, {299, expire.Count{5, 4, 1}}, {300, expire.Count{5, 4, 1}},
		{600, expire.Count{6, 5, 1}}, {3000, expire.Count{6, 5, 1}}, {3300, expire.Count{6, 4, 1}}, {3599, expire.Count{5, 4, 1}},
		{3600, expire.Count{5, 4, 1}}, {4000, expire.Count{6, 5, 1}}, {7199, expire.Count{5, 4, 1}}, {7200, expire.Count{6, 5, 2}}, {7201, expire.Count{6, 5, 2}},
	} {
		x.holds = []api.Hold{held("cpu", row.at, row.at+1)}
		x.goes(t, row.want)
	}
	x.holds = []api.Hold{held("cpu", 299, 301)}
	x.goes(t, expire.Count{4, 3, 1})
	x.holds = []api.Hold{held("cpu", 3599, 3601)}
	x.goes(t, expire.Count{4, 3, 0})
	x.holds = []api.Hold{held("cpu", 0, 7200)}
	x.goes(t, expire.Count{})
}

// P19.2: a hold of the series, of another one, of all.
func TestHoldSeries(t *testing.T) {
	all, none := expire.Count{6, 5, 2}, expire.Count{}
	for _, row := range []struct {
		of, series string
		want       expire.Count
	}{
		{"cpu", "cpu", none}, {"mem", "cpu", all}, {"", "cpu", none}, {"cp", "cpu", all}, {"cpu0", "cpu", all}, {"c", "cpu", all},
		{"cpu", "", all}, {"", "", none},
		{"cpu", "CPU", all}, {"", "CPU", none}, {"cpu", "cpu ", all}, {"", "cpu ", none}, {"cpu", "cpu\x00", all}, {"", "\xff\xfe", none},
		{"", "a-name-of-more-than-sixteen-signs", none}, {"a-name-of-sixtee", "a-name-of-sixteen-signs", all}, {"", "-", none}, {"", "a/b", none},
	} {
		x := scene{l: usual(), series: row.series, holds: []api.Hold{held(row.of, 0, maxTime+1)}, p: of(1, 1, 1), now: maxTime}
		x.goes(t, row.want)
		// Without holds the name is nothing to it.
		x.holds = nil
		x.goes(t, all)
	}
}

// P19.2: of several holds each one counts.
func TestHoldSeveral(t *testing.T) {
	x := scene{l: usual(), series: "cpu", p: of(1, 1, 1), now: maxTime}
	named := func(name, series string, from, to int64) api.Hold {
		return api.Hold{Name: name, Series: series, Range: api.Range{From: from, To: to}}
	}
	x.holds = []api.Hold{named("a", "cpu", 0, 1), named("b", "mem", 0, 9000), named("c", "", 7199, 7200)}
	x.goes(t, expire.Count{4, 3, 0})
	x.series = "mem"
	x.goes(t, expire.Count{})
	x.series = "disk"
	x.goes(t, expire.Count{5, 4, 1})
	x.holds = []api.Hold{named("a", "disk", 0, 300), named("b", "disk", 100, 400), named("c", "disk", 7200, 7300)}
	x.goes(t, expire.Count{3, 3, 1})
}

// P19.2: a hold of a point doesn't keep a Mid aggregate that it doesn't meet, and what a hold keeps goes when it is released.
func TestRelease(t *testing.T) {
	x := scene{l: usual(), series: "cpu", holds: []api.Hold{held("cpu", 299, 300)}, p: of(1, 1, 1), now: maxTime}
	s, h := x.l.stock(t), table(t, x.holds)
	for _, want := range []expire.Count{{5, 4, 1}, {}} {
		if got, e := expire.Series(s, "cpu", h, x.p, x.now); got != want || e != api.OK {
			t.Fatalf("Series: %v, %d, want %v", got, int(e), want)
		}
	}
	left := lists{points: points(299, 7200, 7201), aggs: [3][]api.Agg{nil, aggs(0), aggs(0)}, marks: x.l.marks}
	checkTold(t, "with a hold", s, left)
	h.Release("case-1")
	checkTold(t, "behind a release", s, left)
	checkCount(t, "Due behind a release", expire.Due(s, "cpu", h, x.p, x.now), expire.Count{1, 1, 1})
	if got, e := expire.Series(s, "cpu", h, x.p, x.now); got != (expire.Count{1, 1, 1}) || e != api.OK {
		t.Fatalf("Series behind a release: %v, %d", got, int(e))
	}
	checkTold(t, "behind a release", s, lists{points: points(7200, 7201), marks: x.l.marks})
}

// stays looks whether all that a range has, or meets, is told as it was.
func stays(t *testing.T, was, is lists, r api.Range) {
	t.Helper()
	for _, p := range was.points {
		if p.At >= r.From && p.At < r.To && !slices.Contains(is.points, p) {
			t.Fatalf("%v went, with a hold of %v", p, r)
		}
	}
	for i := range 3 {
		for _, a := range was.aggs[i] {
			if a.At < r.To && a.At+widths[i] > r.From && !slices.Contains(is.aggs[i], a) {
				t.Fatalf("%v of tier %d went, with a hold of %v", a, i, r)
			}
		}
	}
}

// P19.2: what is held is told as it was, by the strictest policies, however late, and however often.
func TestHeldStays(t *testing.T) {
	for _, r := range []api.Range{{From: 0, To: 1}, {From: 299, To: 300}, {From: 250, To: 350}, {From: 3599, To: 3601}, {From: 3000, To: 3300}, {From: 0, To: 7200}, {From: 7000, To: 7201}, {From: 0, To: maxTime + 1}} {
		for _, series := range []string{"cpu", ""} {
			s, h := usual().stock(t), table(t, []api.Hold{held(series, r.From, r.To)})
			for _, now := range []int64{0, 1, 300, 3600, 7200, 20_000, maxTime, 5, maxTime} {
				for _, p := range []api.Policy{of(1, 1, 1), of(1, 1, 0), of(1, 2, 3), of(0, 0, 0)} {
					if _, e := expire.Series(s, "cpu", h, p, now); e != api.OK {
						t.Fatalf("Series: %d", int(e))
					}
					stays(t, usual(), told(t, s), r)
				}
			}
		}
	}
}

// P19.2: points that aren't rolled stay, and go once they are.
func TestUnrolledStay(t *testing.T) {
	s := rolled(t, 600, 10, 310, 599, 600, 899, 900, 5000)
	for _, row := range []struct {
		now  int64
		want expire.Count
		left []int64
	}{
		{600, expire.Count{3, 0, 0}, []int64{600, 899, 900, 5000}},
		{899, expire.Count{}, []int64{600, 899, 900, 5000}},
		{900, expire.Count{2, 0, 0}, []int64{900, 5000}},
		{3600, expire.Count{1, 4, 1}, []int64{5000}},
		{7200, expire.Count{1, 1, 1}, nil},
	} {
		s.Roll(row.now)
		if got, e := expire.Series(s, "cpu", nil, of(1, 1, 1), maxTime); got != row.want || e != api.OK {
			t.Fatalf("Series rolled up to %d: %v, %d, want %v", row.now, got, int(e), row.want)
		}
		if got := s.Points(wide); !slices.Equal(got, points(row.left...)) {
			t.Fatalf("rolled up to %d %v is left", row.now, got)
		}
	}
	checkTold(t, "in the end", s, lists{marks: [3]int64{0, 7200, 7200}})
}

// P19.1: where a tier's rolling stopped, since an aggregate more didn't go in, what stands behind its mark stays, till it goes on.
func TestStopped(t *testing.T) {
	s := lists{points: points(10_000_000), aggs: [3][]api.Agg{nil, aggs(row(most, 0, mid)...), nil}, marks: [3]int64{0, most * mid, 0}}.stock(t)
	if n, e := s.Roll(10_000_200); n != 22 || e != api.ErrFull {
		t.Fatalf("Roll: %d, %d", n, int(e))
	}
	x := scene{l: told(t, s), series: "cpu", p: of(1, 1, 1), now: maxTime}
	if x.l.marks != [3]int64{0, 9_999_900, 9_997_200} {
		t.Fatalf("the marks: %v", x.l.marks)
	}
	// The point isn't rolled: it stays, however late.
	s = x.goes(t, expire.Count{0, most, 22})
	if n, e := s.Roll(10_000_200); n != 1 || e != api.OK {
		t.Fatalf("Roll: %d, %d", n, int(e))
	}
	x.l = told(t, s)
	s = x.goes(t, expire.Count{1, 0, 0})
	if n, e := s.Roll(10_000_800); n != 1 || e != api.OK {
		t.Fatalf("Roll: %d, %d", n, int(e))
	}
	x.l = told(t, s)
	x.goes(t, expire.Count{0, 1, 1})
}

// P19.2: table and policy are as they were, and may be used and changed further.
func TestArguments(t *testing.T) {
	holds := []api.Hold{held("cpu", 0, 10), {Name: "b", Range: api.Range{From: 3600, To: 3601}}, {Name: "c", Series: "mem", Range: api.Range{From: 5, To: 6}}}
	s, h, p := usual().stock(t), table(t, holds), of(1, 1, 1)
	expire.Due(s, "cpu", h, p, 9000)
	checkHolds(t, "behind Due", h, holds)
	expire.Series(s, "cpu", h, p, 9000)
	checkHolds(t, "behind Series", h, holds)
	expire.Next(s, p)
	if p != of(1, 1, 1) {
		t.Fatalf("the policy became %v", p)
	}
	was := told(t, s)
	for i, change := range []func(){
		func() { h.Release("b") },
		func() { h.Add(api.Hold{Name: "d", Series: "cpu", Range: api.Range{From: 7000, To: 8000}}) },
		func() { h.Release("case-1"); h.Release("c") },
		func() { p.Raw, p.Mid, p.Long = 0, 0, 0 },
		func() { h = nil },
	} {
		change()
		checkTold(t, fmt.Sprint("behind change ", i), s, was)
	}
	h = table(t, nil)
	checkCount(t, "Due", expire.Due(s, "cpu", h, of(1, 1, 1), 9000), expire.Count{2, 2, 2})
	if e := h.Add(held("cpu", 3600, 3700)); e != api.OK {
		t.Fatalf("Add: %d", int(e))
	}
	checkCount(t, "Due", expire.Due(s, "cpu", h, of(1, 1, 1), 9000), expire.Count{1, 1, 1})
}
