package expire_test

import (
	"slices"
	"testing"

	"catacomb/api"
	"catacomb/expire"
	"catacomb/hold"
	"catacomb/tier"
)

// points are points at some ticks, each with a value of its own.
func points(ticks ...int64) []api.Point {
	var l []api.Point
	for _, at := range ticks {
		l = append(l, api.Point{At: at, Value: at%97 - 40})
	}
	return l
}

// aggs are aggregates at some ticks, each with values of its own.
func aggs(ticks ...int64) []api.Agg {
	var l []api.Agg
	for _, at := range ticks {
		l = append(l, api.Agg{At: at, Count: 1 + at%7, Sum: at%1013 - 500, Min: -at % 11, Max: at % 13})
	}
	return l
}

// row is numbers at equal steps.
func row(n int, from, step int64) []int64 {
	var l []int64
	for range n {
		l = append(l, from)
		from += step
	}
	return l
}

// of is a policy of three numbers.
func of(raw, mid, long int64) api.Policy { return api.Policy{Raw: raw, Mid: mid, Long: long} }

// a hold of a range.
func held(series string, from, to int64) api.Hold {
	return api.Hold{Name: "case-1", Series: series, Range: api.Range{From: from, To: to}}
}

// usual is two Long windows and more: rolled up to 7200, with points behind it.
func usual() lists {
	return lists{
		points: points(0, 299, 300, 3599, 3600, 7199, 7200, 7201),
		aggs:   [3][]api.Agg{nil, aggs(0, 300, 3300, 3600, 6900), aggs(0, 3600)},
		marks:  [3]int64{0, 7200, 7200},
	}
}

// rolled is a stock of points, rolled up to a tick.
func rolled(t *testing.T, now int64, ticks ...int64) *tier.Stock {
	t.Helper()
	s := tier.New()
	if _, e := s.Put(points(ticks...)); e != api.OK {
		t.Fatalf("Put: %d", int(e))
	}
	if _, e := s.Roll(now); e != api.OK {
		t.Fatalf("Roll(%d): %d", now, int(e))
	}
	return s
}

// P19.1: the chapter's example.
func TestExample(t *testing.T) {
	s := rolled(t, 300, 10, 20)
	p := of(100, 0, 0)
	checkCount(t, "Due at 120", expire.Due(s, "cpu", nil, p, 120), expire.Count{1, 0, 0})
	got, e := expire.Series(s, "cpu", nil, p, 120)
	if got != (expire.Count{1, 0, 0}) || e != api.OK {
		t.Fatalf("Series at 120: %v, %d", got, int(e))
	}
	if got := s.Points(wide); !slices.Equal(got, points(20)) {
		t.Fatalf("%v is left", got)
	}
	if got := s.Aggs(api.Mid, wide); len(got) != 1 || got[0].Count != 2 {
		t.Fatalf("the aggregate became %v", got)
	}
}

// P19.1: at each tick around those where something goes: what goes of each tier.
func TestByAndBy(t *testing.T) {
	x := scene{l: usual(), series: "cpu", p: of(1000, 2000, 3000)}
	for _, row := range []struct {
		now  int64
		want expire.Count
	}{
		{0, expire.Count{}}, {999, expire.Count{}}, {1000, expire.Count{}},
		{1001, expire.Count{1, 0, 0}}, {1299, expire.Count{1, 0, 0}},
		{1300, expire.Count{2, 0, 0}}, {1301, expire.Count{3, 0, 0}},
		{2299, expire.Count{3, 0, 0}}, {2300, expire.Count{3, 1, 0}},
		{2599, expire.Count{3, 1, 0}}, {2600, expire.Count{3, 2, 0}},
		{4599, expire.Count{3, 2, 0}}, {4600, expire.Count{4, 2, 0}}, {4601, expire.Count{5, 2, 0}},
		{5599, expire.Count{5, 2, 0}}, {5600, expire.Count{5, 3, 0}},
		{5899, expire.Count{5, 3, 0}}, {5900, expire.Count{5, 4, 0}},
		{6599, expire.Count{5, 4, 0}}, {6600, expire.Count{5, 4, 1}},
		{8199, expire.Count{5, 4, 1}}, {8200, expire.Count{6, 4, 1}},
		{8201, expire.Count{6, 4, 1}}, {9199, expire.Count{6, 4, 1}}, {9200, expire.Count{6, 5, 1}},
		{10_199, expire.Count{6, 5, 1}}, {10_200, expire.Count{6, 5, 2}},
		{maxTime, expire.Count{6, 5, 2}},
	} {
		x.now = row.now
		x.goes(t, row.want)
	}
}

// wrongPolicies are policies that may not be, in each of chapter 18's ways.
func wrongPolicies() []api.Policy {
	l := []api.Policy{
		of(6, 5, 0), of(6, 5, 7), of(5, 7, 6), of(0, 5, 0), of(0, 0, 5), of(0, 5, 5), of(5, 0, 5), of(5, 0, 6), of(1, 0, maxTime), of(2, 1, 2), of(2, 2, 1),
		of(maxTime, maxTime-1, 0), of(100, 100, 99), of(100, 99, 100),
	}
	for _, n := range []int64{-1, -100, least, maxTime + 1, greatest} {
		l = append(l, of(n, 0, 0), of(1, n, 0), of(1, 1, n), of(1, 0, n), of(n, n, n), of(0, n, 0), of(0, 0, n), of(n, 1, 1), of(n, maxTime, maxTime))
	}
	return l
}

// checkRefused looks whether nothing is told, and nothing changes.
func checkRefused(t *testing.T, h *hold.Table, p api.Policy, now int64) {
	t.Helper()
	s := usual().stock(t)
	for range 2 {
		if got, e := expire.Series(s, "cpu", h, p, now); got != (expire.Count{}) || e != api.ErrArg {
			t.Fatalf("Series by %v at %d: %v, %d", p, now, got, int(e))
		}
		checkCount(t, "Due", expire.Due(s, "cpu", h, p, now), expire.Count{})
		checkTold(t, "behind an error", s, usual())
	}
	checkNil(t, h, p, now)
}

// checkNil looks at a nil stock.
func checkNil(t *testing.T, h *hold.Table, p api.Policy, now int64) {
	t.Helper()
	for range 2 {
		if got, e := expire.Series(nil, "cpu", h, p, now); got != (expire.Count{}) || e != api.ErrArg {
			t.Fatalf("Series of a nil stock by %v at %d: %v, %d", p, now, got, int(e))
		}
		checkCount(t, "Due of a nil stock", expire.Due(nil, "cpu", h, p, now), expire.Count{})
	}
}

// tables are a nil table, an empty one, and ones of a few holds and of as many as go in.
func tables(t *testing.T) []*hold.Table {
	full := hold.New()
	for i := range 16 {
		full.Add(api.Hold{Name: string(rune('a' + i)), Series: "cpu", Range: api.Range{From: int64(i) * 10, To: int64(i)*10 + 5}})
	}
	return []*hold.Table{nil, hold.New(), table(t, []api.Hold{held("", 0, 400)}), full}
}

// P19.1: a policy that may not be: ErrArg, and nothing goes.
func TestWrongPolicy(t *testing.T) {
	for _, p := range wrongPolicies() {
		for _, h := range tables(t) {
			for _, now := range []int64{0, 5000, 20_000, maxTime, -1, maxTime + 1} {
				checkRefused(t, h, p, now)
			}
		}
	}
}

// P19.1: a now outside 0 to MaxTime: ErrArg, and nothing goes.
func TestWrongNow(t *testing.T) {
	for _, now := range []int64{-1, -2, -300, -maxTime, least, least + 1, maxTime + 1, maxTime + 2, maxTime + long, 1 << 41, greatest - 1, greatest} {
		for _, h := range tables(t) {
			for _, p := range []api.Policy{of(1, 1, 1), of(0, 0, 0), of(100, 200, 0), of(maxTime, maxTime, maxTime)} {
				checkRefused(t, h, p, now)
			}
		}
	}
}

// P19.1: a nil stock: ErrArg, whatever else is handed in.
func TestNilStock(t *testing.T) {
	for _, h := range tables(t) {
		for _, p := range append(wrongPolicies(), of(1, 1, 1), of(0, 0, 0), of(100, 200, 0)) {
			for _, now := range []int64{0, 1, 5000, maxTime, -1, maxTime + 1, least, greatest} {
				checkNil(t, h, p, now)
			}
		}
	}
}

// P19.1: the least now and the greatest one are right.
func TestNowEnds(t *testing.T) {
	for _, p := range []api.Policy{of(1, 1, 1), of(100, 200, 0), of(0, 0, 0), of(maxTime, maxTime, maxTime)} {
		scene{l: usual(), series: "cpu", p: p, now: 0}.goes(t, expire.Count{})
	}
	scene{l: usual(), series: "cpu", p: of(1, 1, 1), now: maxTime}.goes(t, expire.Count{6, 5, 2})
	scene{l: usual(), series: "cpu", p: of(maxTime, maxTime, maxTime), now: maxTime}.goes(t, expire.Count{})
	scene{l: usual(), series: "cpu", p: of(maxTime-1, maxTime-1, maxTime-1), now: maxTime}.goes(t, expire.Count{1, 0, 0})
	scene{l: usual(), series: "cpu", p: of(1, maxTime-300, maxTime-300), now: maxTime}.goes(t, expire.Count{6, 1, 0})
	scene{l: usual(), series: "cpu", p: of(1, 1, maxTime-3600), now: maxTime}.goes(t, expire.Count{6, 5, 1})
	// The last windows of all aren't over at MaxTime, and may not go.
}

// P19.1: a table that is nil, an empty one, and full ones.
func TestTables(t *testing.T) {
	x := scene{l: usual(), series: "cpu", p: of(1, 1, 1), now: 20_000}
	x.goes(t, expire.Count{6, 5, 2}) // nil, and empty
	for i, c := range "abcdefghijklmnop" {
		x.holds = append(x.holds, api.Hold{Name: string(c), Series: "mem", Range: api.Range{From: 0, To: int64(i) + 1}})
	}
	x.goes(t, expire.Count{6, 5, 2})
	for i := range x.holds {
		x.holds[i].Series = "cpu"
		x.goes(t, expire.Count{5, 4, 1})
	}
	x.holds[15].Range = api.Range{From: 7199, To: 7200}
	x.goes(t, expire.Count{4, 3, 0})
}

// P19.1: a point below Mid's mark goes, one at it, or behind it, stays, be it gone ever so long.
func TestPointMark(t *testing.T) {
	for mark := int64(0); mark <= 9000; mark += mid {
		for _, now := range []int64{20_000, maxTime} {
			x := scene{l: lists{marks: [3]int64{0, mark, 0}}, series: "cpu", p: of(1, 1, 1), now: now}
			want := 0
			for _, at := range []int64{mark - mid, mark - 2, mark - 1, mark, mark + 1, mark + mid} {
				if at >= 0 {
					x.l.points = append(x.l.points, points(at)...)
				}
				if at >= 0 && at < mark {
					want++
				}
			}
			s := x.goes(t, expire.Count{want, 0, 0})
			if got := s.Points(wide); !slices.Equal(got, points(mark, mark+1, mark+mid)) {
				t.Fatalf("behind Mid's mark %d %v is left", mark, got)
			}
		}
	}
}

// P19.1: one point below Mid's mark, at it, behind it, at the ends of what is rolled.
func TestPointMarkEnds(t *testing.T) {
	for _, mark := range []int64{mid, long, 1_099_511_627_700, 1_099_511_628_000, 1_099_511_631_300} {
		for _, at := range []int64{mark - 1, mark, mark + 1} {
			if at > maxTime {
				continue
			}
			want := expire.Count{}
			if at < mark && at+2 <= maxTime {
				want[api.Raw] = 1
			}
			scene{l: lists{points: points(at), marks: [3]int64{0, mark, 0}}, series: "cpu", p: of(1, 0, 0), now: maxTime}.goes(t, want)
		}
	}
}

// P19.1: a point that is gone just so, one tick earlier, one later.
func TestPointGone(t *testing.T) {
	for _, at := range []int64{0, 1, 10, 299, 300, 5000} {
		for _, n := range []int64{1, 2, 100, 300, 3600, maxTime - 5001} {
			x := scene{l: lists{points: points(at), marks: [3]int64{0, 5100, 3600}}, series: "cpu", p: of(n, 0, 0)}
			x.now = at + n
			x.goes(t, expire.Count{})
			x.now++
			x.goes(t, expire.Count{1, 0, 0})
			x.now = min(x.now+1, maxTime)
			x.goes(t, expire.Count{1, 0, 0})
		}
	}
}

// P19.1: a Mid aggregate whose window ends below Long's mark, or at it, goes, one behind it stays.
func TestMidMark(t *testing.T) {
	for mark := int64(0); mark <= 4*long; mark += long {
		x := scene{l: lists{marks: [3]int64{0, mark + long, mark}}, series: "cpu", p: of(1, 1, 1), now: maxTime}
		want := 0
		for _, at := range []int64{mark - long, mark - 2*mid, mark - mid, mark, mark + mid, mark + long - mid} {
			if at < 0 {
				continue
			}
			x.l.aggs[1] = append(x.l.aggs[1], aggs(at)...)
			if at+mid <= mark {
				want++
			}
			one := x
			one.l.aggs[1] = aggs(at)
			if at+mid <= mark {
				one.goes(t, expire.Count{0, 1, 0})
			} else {
				one.goes(t, expire.Count{})
			}
		}
		s := x.goes(t, expire.Count{0, want, 0})
		if got := s.Aggs(api.Mid, wide); !slices.Equal(got, aggs(mark, mark+mid, mark+long-mid)) {
			t.Fatalf("behind Long's mark %d %v is left", mark, got)
		}
	}
}

// P19.1: a Mid window that is gone just so, one tick earlier, one later.
func TestMidGone(t *testing.T) {
	for _, at := range []int64{0, mid, long - mid, long, 2*long - mid} {
		for _, n := range []int64{1, 2, 299, 300, 301, 3600, maxTime - 2*long - 1} {
			x := scene{l: lists{aggs: [3][]api.Agg{nil, aggs(at), nil}, marks: [3]int64{0, 2 * long, 2 * long}}, series: "cpu", p: of(1, n, 0)}
			x.now = at + mid + n - 1
			x.goes(t, expire.Count{})
			x.now++
			x.goes(t, expire.Count{0, 1, 0})
			x.now++
			x.goes(t, expire.Count{0, 1, 0})
		}
	}
}

// P19.1: a Long window that is gone just so, one tick earlier, one later; no mark is asked for.
func TestLongGone(t *testing.T) {
	for _, at := range []int64{0, long, 2 * long, 9 * long} {
		for _, n := range []int64{1, 2, 299, 300, 3599, 3600, 3601, maxTime - 10*long - 1} {
			for _, mark := range []int64{at + long, 30 * long} {
				x := scene{l: lists{aggs: [3][]api.Agg{nil, nil, aggs(at)}, marks: [3]int64{0, mark, mark}}, series: "cpu", p: of(1, 1, n)}
				x.now = at + long + n - 1
				x.goes(t, expire.Count{})
				x.now++
				x.goes(t, expire.Count{0, 0, 1})
				x.now++
				x.goes(t, expire.Count{0, 0, 1})
			}
		}
	}
}

// P19.1: a tier of which the policy has 0 keeps all, for ever.
func TestNoughts(t *testing.T) {
	for _, now := range []int64{0, 1, 7200, 20_000, maxTime} {
		late := now >= 20_000
		for _, row := range []struct {
			p    api.Policy
			want expire.Count
		}{
			{of(0, 0, 0), expire.Count{}},
			{of(1, 0, 0), expire.Count{6, 0, 0}},
			{of(1, 1, 0), expire.Count{6, 5, 0}},
			{of(1, 1, 1), expire.Count{6, 5, 2}},
		} {
			x := scene{l: usual(), series: "cpu", p: row.p, now: now}
			if late {
				x.goes(t, row.want)
			} else {
				x.run(t)
			}
		}
	}
}

// P19.1: each tier goes by its own number.
func TestEachTier(t *testing.T) {
	x := scene{l: usual(), series: "cpu", now: 20_000}
	for _, row := range []struct {
		p    api.Policy
		want expire.Count
	}{
		{of(19_000, 19_000, 19_000), expire.Count{3, 2, 0}},
		{of(12_800, 19_000, 19_400), expire.Count{6, 2, 0}},
		{of(12_801, 12_801, 12_801), expire.Count{5, 4, 1}},
		{of(12_799, 12_800, 12_801), expire.Count{6, 5, 1}},
		{of(1, 12_801, 16_400), expire.Count{6, 4, 1}},
		{of(1, 12_801, 16_401), expire.Count{6, 4, 0}},
		{of(1, 19_701, 19_701), expire.Count{6, 0, 0}},
		{of(1, 19_700, 19_701), expire.Count{6, 1, 0}},
		{of(19_999, 19_999, 19_999), expire.Count{1, 0, 0}},
		{of(20_000, 20_000, 20_000), expire.Count{}},
	} {
		x.p = row.p
		x.goes(t, row.want)
	}
}

// P19.1: a stock of nothing, new or restored.
func TestEmpty(t *testing.T) {
	for _, l := range []lists{{}, {marks: [3]int64{0, 300, 0}}, {marks: [3]int64{0, 7200, 7200}}, {marks: [3]int64{0, 1_099_511_631_300, 1_099_511_629_200}}} {
		for _, now := range []int64{0, 1, 20_000, maxTime} {
			for _, p := range []api.Policy{of(0, 0, 0), of(1, 1, 1), of(maxTime, maxTime, maxTime)} {
				scene{l: l, series: "cpu", p: p, now: now}.goes(t, expire.Count{})
			}
		}
	}
	s := tier.New()
	if got, e := expire.Series(s, "cpu", nil, of(1, 1, 1), maxTime); got != (expire.Count{}) || e != api.OK {
		t.Fatalf("Series of a new stock: %v, %d", got, int(e))
	}
	if n, e := s.Put(points(0, maxTime)); n != 2 || e != api.OK {
		t.Fatalf("Put behind Series: %d, %d", n, int(e))
	}
}

// P19.1: a full stock goes, all of it, half of it, or one by one.
func TestFull(t *testing.T) {
	x := scene{series: "cpu"}
	x.l.points = points(row(most, 0, long)...)
	x.l.aggs[1] = aggs(row(most, 0, long)...)
	x.l.aggs[2] = aggs(row(most, 0, long)...)
	x.l.marks = [3]int64{0, most * long, most * long}
	x.p, x.now = of(1, 1, 1), maxTime
	x.goes(t, expire.Count{most, most, most})
	x.p, x.now = of(long, long, long), 128*long+long
	x.goes(t, expire.Count{128, 128, 128})
	x.p, x.now = of(long+1, 2*long, 3*long), 100*long
	x.goes(t, expire.Count{99, 98, 97})
	x.l.points = points(row(most, most*long-most, 1)...)
	x.p, x.now = of(1, 0, 0), most*long-10
	x.goes(t, expire.Count{most - 11, 0, 0})
}

// P19.1, P19.2: of a stock that isn't rolled nothing goes.
func TestNotRolled(t *testing.T) {
	for _, ticks := range [][]int64{{0}, {0, 1, 2, 299, 300, 3600, maxTime}, row(most, 0, 1), row(most, 0, long)} {
		for _, now := range []int64{0, 1, 20_000, maxTime} {
			scene{l: lists{points: points(ticks...)}, series: "cpu", p: of(1, 1, 1), now: now}.goes(t, expire.Count{})
		}
	}
}

// P19.1: of a stock of which Mid alone is rolled no aggregate goes, but what is below Mid's mark.
func TestMidAlone(t *testing.T) {
	s := rolled(t, 3599, 0, 299, 300, 3299, 3300, 3599)
	l := told(t, s)
	if l.marks != [3]int64{0, 3300, 0} || len(l.aggs[1]) != 3 {
		t.Fatalf("the stock tells %v", l)
	}
	x := scene{l: l, series: "cpu", p: of(1, 1, 1), now: maxTime}
	x.goes(t, expire.Count{4, 0, 0})
	s.Roll(3600)
	x.l = told(t, s)
	x.goes(t, expire.Count{6, 4, 1})
}
