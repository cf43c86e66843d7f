package purge_test

import (
	"slices"
	"testing"

	"catacomb/api"
	"catacomb/hold"
	"catacomb/purge"
	"catacomb/tier"
)

// points are points at some ticks, their values 1, 2, 4 and so on, so that a sum tells which ones it has.
func points(ticks ...int64) []api.Point {
	var l []api.Point
	for i, at := range ticks {
		l = append(l, api.Point{At: at, Value: 1 << (i % 50)})
	}
	return l
}

// one is an aggregate of one value.
func one(at, value int64) api.Agg {
	return api.Agg{At: at, Count: 1, Sum: value, Min: value, Max: value}
}

// ones are aggregates of one value each, of some windows.
func ones(ticks ...int64) []api.Agg {
	var l []api.Agg
	for _, at := range ticks {
		l = append(l, one(at, at%97-40))
	}
	return l
}

// row is numbers at equal steps.
func row(n int, from, step int64) []int64 {
	var l []int64
	for range n {
		l = append(l, from)
		from += step
	}
	return l
}

// to is a range.
func to(from, to int64) api.Range { return api.Range{From: from, To: to} }

// rolled is what a stock of points, rolled up to a tick, tells.
func rolled(t *testing.T, now int64, l []api.Point) lists {
	t.Helper()
	s := tier.New()
	if n, e := s.Put(l); n != len(l) || e != api.OK {
		t.Fatalf("Put: %d, %d", n, int(e))
	}
	if _, e := s.Roll(now); e != api.OK {
		t.Fatalf("Roll(%d): %d", now, int(e))
	}
	return told(t, s)
}

// usual is two Long windows with points at their edges, rolled, and two points behind them.
func usual(t *testing.T) lists {
	t.Helper()
	l := rolled(t, 7200, points(0, 299, 300, 3599, 3600, 7199, 7200, 7201))
	want := lists{
		points: points(0, 299, 300, 3599, 3600, 7199, 7200, 7201),
		mids:   []api.Agg{{At: 0, Count: 2, Sum: 3, Min: 1, Max: 2}, one(300, 4), one(3300, 8), one(3600, 16), one(6900, 32)},
		longs:  []api.Agg{{At: 0, Count: 4, Sum: 15, Min: 1, Max: 8}, {At: 3600, Count: 2, Sum: 48, Min: 16, Max: 32}},
		marks:  [3]int64{0, 7200, 7200},
	}
	if !l.same(want) {
		t.Fatalf("the usual stock tells %v", l)
	}
	return l
}

// sums are those of aggregates.
func sums(l []api.Agg) []int64 {
	var n []int64
	for _, a := range l {
		n = append(n, a.Sum)
	}
	return n
}

// P20.1: the chapter's example, and that of the whole.
func TestExamples(t *testing.T) {
	if got := purge.Reach(to(10, 20)); got != to(0, 3600) {
		t.Fatalf("Reach of 10 to 20: %v", got)
	}
	h := table(t, []api.Hold{{Name: "case-1", Series: "cpu", Range: to(10, 20)}})
	if e := purge.Check(h, "cpu", to(0, 5)); e != api.ErrHeld {
		t.Fatalf("Check of cpu: %d", int(e))
	}
	if e := purge.Check(h, "mem", to(0, 5)); e != api.OK {
		t.Fatalf("Check of mem: %d", int(e))
	}
}

// P20.1: Reach: ranges in one Long window, at its edges, a tick ahead of them and behind them, and over some.
func TestReach(t *testing.T) {
	for _, row := range []struct{ r, want api.Range }{
		{to(0, 1), to(0, 3600)}, {to(0, 3599), to(0, 3600)}, {to(0, 3600), to(0, 3600)}, {to(0, 3601), to(0, 7200)},
		{to(1, 2), to(0, 3600)}, {to(1, 3600), to(0, 3600)}, {to(1, 3601), to(0, 7200)},
		{to(3598, 3599), to(0, 3600)}, {to(3599, 3600), to(0, 3600)}, {to(3599, 3601), to(0, 7200)}, {to(3599, 7201), to(0, 10_800)},
		{to(3600, 3601), to(3600, 7200)}, {to(3600, 7200), to(3600, 7200)}, {to(3600, 7201), to(3600, 10_800)}, {to(3600, 7199), to(3600, 7200)},
		{to(3601, 3602), to(3600, 7200)}, {to(3601, 7200), to(3600, 7200)}, {to(4000, 9000), to(3600, 10_800)}, {to(5, 14_400), to(0, 14_400)},
		{whole, to(0, 1_099_511_629_200)}, {to(0, maxTime), to(0, 1_099_511_629_200)},
		{to(maxTime, maxTime+1), to(lastLong, 1_099_511_629_200)}, {to(maxTime-1, maxTime), to(lastLong, 1_099_511_629_200)},
		{to(lastLong, maxTime+1), to(lastLong, 1_099_511_629_200)}, {to(lastLong-1, lastLong), to(lastLong-long, lastLong)},
		{to(lastLong-1, lastLong+1), to(lastLong-long, 1_099_511_629_200)}, {to(0, lastLong), to(0, lastLong)},
	} {
		if got := purge.Reach(row.r); got != row.want || reach(row.r) != row.want {
			t.Fatalf("Reach of %v: %v, want %v", row.r, got, row.want)
		}
	}
}

// P20.1: Reach: no lesser range of whole Long windows has all of a range.
func TestReachLeast(t *testing.T) {
	ends := []int64{0, 1, 2, 3598, 3599, 3600, 3601, 3602, 7199, 7200, 7201, 10_799, 10_800, 10_801}
	for _, from := range ends {
		for _, end := range ends {
			want := api.Range{}
			if from < end {
				for want.From+long <= from {
					want.From += long
				}
				for want.To = want.From; want.To < end; {
					want.To += long
				}
			}
			if got := purge.Reach(to(from, end)); got != want {
				t.Fatalf("Reach of %d to %d: %v, want %v", from, end, got, want)
			}
		}
	}
}

// wrong are ranges that aren't right: from below 0, empty, turned, up to more than there are ticks.
func wrong() []api.Range {
	l := []api.Range{
		{}, to(-1, 0), to(-1, 1), to(-1, 3600), to(-3600, 3600), to(-3600, 0), to(-10, -5), to(least, greatest), to(least, 1), to(least, least), to(-1, maxTime+1), to(-1, maxTime+2),
		to(1, 1), to(10, 10), to(3600, 3600), to(7200, 7200), to(maxTime, maxTime), to(maxTime+1, maxTime+1), to(greatest, greatest),
		to(1, 0), to(20, 10), to(3600, 0), to(3600, 3599), to(7200, 3600), to(0, -1), to(maxTime+1, 0), to(greatest, least), to(5, least), to(greatest, 0),
		to(0, maxTime+2), to(0, maxTime+3600), to(0, 1_099_511_629_200), to(0, greatest), to(3600, greatest), to(maxTime, maxTime+2), to(maxTime+1, maxTime+2), to(maxTime+5, maxTime+9), to(greatest-1, greatest),
	}
	return l
}

// P20.1: a range that isn't right: ErrRange, nothing is told, and nothing changes; no hold is asked for.
func TestWrongRange(t *testing.T) {
	for _, r := range wrong() {
		if right(r) {
			t.Fatalf("%v is right", r)
		}
		x := scene{l: usual(t), series: "cpu", r: r}
		x.fails(t, api.ErrRange)
		x.holds = []api.Hold{{Name: "a", Range: whole}}
		x.fails(t, api.ErrRange)
		x.l = lists{}
		x.fails(t, api.ErrRange)
	}
}

// tables are a nil table, an empty one, one of all, and full ones.
func tables(t *testing.T) []*hold.Table {
	var cpu, mem []api.Hold
	for i, c := range "abcdefghijklmnop" {
		cpu = append(cpu, api.Hold{Name: string(c), Series: "cpu", Range: to(int64(i), int64(i)+1)})
		mem = append(mem, api.Hold{Name: string(c), Series: "mem", Range: whole})
	}
	return []*hold.Table{nil, hold.New(), table(t, []api.Hold{{Name: "a", Range: whole}}), table(t, cpu), table(t, mem)}
}

// P20.1: of the errors ErrArg comes first, then ErrRange, then ErrHeld; beside each the report is of noughts.
func TestErrorOrder(t *testing.T) {
	held := table(t, []api.Hold{{Name: "a", Range: whole}})
	s := usual(t).stock(t)
	for _, row := range []struct {
		s    *tier.Stock
		h    *hold.Table
		r    api.Range
		want api.Errno
	}{
		{nil, held, to(5, 5), api.ErrArg}, {nil, held, to(0, 5), api.ErrArg}, {nil, nil, to(5, 5), api.ErrArg}, {nil, nil, to(0, 5), api.ErrArg},
		{s, held, to(5, 5), api.ErrRange}, {s, held, to(0, maxTime+2), api.ErrRange}, {s, held, to(-1, 5), api.ErrRange}, {s, nil, to(5, 5), api.ErrRange},
		{s, held, to(0, 5), api.ErrHeld}, {s, held, whole, api.ErrHeld},
	} {
		if got, e := purge.Do(row.s, "cpu", row.h, row.r); got != (purge.Report{}) || e != row.want {
			t.Fatalf("Do of %v: %v, %d, want %d", row.r, got, int(e), int(row.want))
		}
		checkTold(t, "behind an error", s, usual(t))
	}
	for _, r := range append(wrong(), whole, to(0, 1)) {
		want := api.ErrHeld
		if !right(r) {
			want = api.ErrRange
		}
		if e := purge.Check(held, "cpu", r); e != want {
			t.Fatalf("Check of %v: %d, want %d", r, int(e), int(want))
		}
	}
}

// P20.1: of a nil stock: ErrArg, a report of noughts, and no points in any range.
func TestNilStock(t *testing.T) {
	for _, r := range append(wrong(), to(0, 1), to(3599, 3601), whole, to(maxTime, maxTime+1), wide) {
		for _, h := range tables(t) {
			for _, series := range []string{"cpu", "mem", "", "No name"} {
				if got, e := purge.Do(nil, series, h, r); got != (purge.Report{}) || e != api.ErrArg {
					t.Fatalf("Do of a nil stock, %v: %v, %d", r, got, int(e))
				}
			}
		}
		checkReport(t, "Plan of a nil stock", purge.Plan(nil, r), purge.Report{})
		checkClean(t, "of a nil stock", nil, r, true)
	}
}

// P20.1: of an empty stock nothing goes, and all is clean.
func TestEmptyStock(t *testing.T) {
	for _, l := range []lists{{}, {marks: [3]int64{0, 300, 0}}, {marks: [3]int64{0, 7200, 7200}}, {marks: [3]int64{0, 1_099_511_631_300, 1_099_511_629_200}}} {
		for _, r := range []api.Range{to(0, 1), to(3599, 3601), whole, to(maxTime, maxTime+1)} {
			scene{l: l, series: "cpu", r: r}.does(t, 0, 0)
			checkClean(t, "of an empty stock", l.stock(t), r, true)
		}
	}
	s := tier.New()
	if got, e := purge.Do(s, "cpu", hold.New(), whole); got != (purge.Report{}) || e != api.OK {
		t.Fatalf("Do of a new stock: %v, %d", got, int(e))
	}
	if n, e := s.Put(points(0, maxTime)); n != 2 || e != api.OK {
		t.Fatalf("Put behind Do: %d, %d", n, int(e))
	}
}

// full is a stock of as many points, and aggregates of each tier, as go in.
func full(t *testing.T) lists {
	t.Helper()
	var l []api.Point
	for _, at := range row(most, 17, long) {
		l = append(l, api.Point{At: at, Value: at % 1013})
	}
	x := rolled(t, most*long, l)
	if len(x.mids) != most || len(x.longs) != most {
		t.Fatalf("the full stock tells %d, %d aggregates", len(x.mids), len(x.longs))
	}
	return x
}

// P20.1: of a full stock all goes, half of it, or one point; and there is room again.
func TestFullStock(t *testing.T) {
	l := full(t)
	for _, x := range []struct {
		r     api.Range
		wants int
	}{
		{whole, most}, {to(17, 255*long+18), most}, {to(17, 255*long+17), most - 1}, {to(18, maxTime+1), most - 1},
		{to(0, 128*long), 128}, {to(128*long, maxTime+1), 128}, {to(17, 18), 1}, {to(255*long+17, 255*long+18), 1}, {to(100*long, 101*long), 1}, {to(0, 17), 0}, {to(255*long+18, maxTime+1), 0},
	} {
		s := scene{l: l, series: "cpu", r: x.r}.does(t, x.wants, 2*x.wants)
		fresh := points(row(x.wants, most*long, 1)...)
		if n, e := s.Put(fresh); n != x.wants || e != api.OK {
			t.Fatalf("Put of as many as went: %d, %d", n, int(e))
		}
		if n, e := s.Put(points(maxTime)); n != 0 || e != api.ErrFull {
			t.Fatalf("Put of one more: %d, %d", n, int(e))
		}
	}
	// All in one Mid window.
	l = rolled(t, 3600, points(row(most, 0, 1)...))
	scene{l: l, series: "cpu", r: to(0, 256)}.does(t, 256, 2)
	scene{l: l, series: "cpu", r: to(0, 255)}.does(t, 255, 2)
	scene{l: l, series: "cpu", r: to(100, 200)}.does(t, 100, 2)
	scene{l: l, series: "cpu", r: to(256, 300)}.does(t, 0, 0)
	scene{l: lists{points: l.points}, series: "cpu", r: to(1, maxTime)}.does(t, 255, 0)
}

// P20.1: what goes of the usual stock, and what its aggregates come to then.
func TestUsual(t *testing.T) {
	for _, row := range []struct {
		r               api.Range
		points, windows int
		mids, longs     []int64 // their sums
	}{
		// One tick, at a point and beside it.
		{to(0, 1), 1, 2, []int64{2, 4, 8, 16, 32}, []int64{14, 48}},
		{to(1, 2), 0, 0, []int64{3, 4, 8, 16, 32}, []int64{15, 48}},
		{to(298, 299), 0, 0, []int64{3, 4, 8, 16, 32}, []int64{15, 48}},
		{to(299, 300), 1, 2, []int64{1, 4, 8, 16, 32}, []int64{13, 48}},
		{to(300, 301), 1, 2, []int64{3, 8, 16, 32}, []int64{11, 48}},
		{to(3599, 3600), 1, 2, []int64{3, 4, 16, 32}, []int64{7, 48}},
		{to(3600, 3601), 1, 2, []int64{3, 4, 8, 32}, []int64{15, 32}},
		{to(7199, 7200), 1, 2, []int64{3, 4, 8, 16}, []int64{15, 16}},
		{to(7200, 7201), 1, 0, []int64{3, 4, 8, 16, 32}, []int64{15, 48}},
		{to(7202, 7203), 0, 0, []int64{3, 4, 8, 16, 32}, []int64{15, 48}},
		{to(maxTime, maxTime+1), 0, 0, []int64{3, 4, 8, 16, 32}, []int64{15, 48}},
		// Between points.
		{to(1, 299), 0, 0, []int64{3, 4, 8, 16, 32}, []int64{15, 48}},
		{to(301, 3599), 0, 0, []int64{3, 4, 8, 16, 32}, []int64{15, 48}},
		{to(3601, 7199), 0, 0, []int64{3, 4, 8, 16, 32}, []int64{15, 48}},
		// Windows whole, and nearly.
		{to(0, 299), 1, 2, []int64{2, 4, 8, 16, 32}, []int64{14, 48}},
		{to(0, 300), 2, 2, []int64{4, 8, 16, 32}, []int64{12, 48}},
		{to(0, 301), 3, 3, []int64{8, 16, 32}, []int64{8, 48}},
		{to(299, 301), 2, 3, []int64{1, 8, 16, 32}, []int64{9, 48}},
		{to(0, 3599), 3, 3, []int64{8, 16, 32}, []int64{8, 48}},
		{to(0, 3600), 4, 4, []int64{16, 32}, []int64{48}},
		{to(0, 3601), 5, 6, []int64{32}, []int64{32}},
		{to(1, 3600), 3, 4, []int64{1, 16, 32}, []int64{1, 48}},
		{to(3599, 3601), 2, 4, []int64{3, 4, 32}, []int64{7, 32}},
		{to(3599, 7200), 3, 5, []int64{3, 4}, []int64{7}},
		{to(3600, 7199), 1, 2, []int64{3, 4, 8, 32}, []int64{15, 32}},
		{to(3600, 7200), 2, 3, []int64{3, 4, 8}, []int64{15}},
		{to(3600, 7201), 3, 3, []int64{3, 4, 8}, []int64{15}},
		{to(3601, 7200), 1, 2, []int64{3, 4, 8, 16}, []int64{15, 16}},
		{to(299, 7200), 5, 7, []int64{1}, []int64{1}},
		// All, but for one at either end.
		{to(0, 7201), 7, 7, nil, nil},
		{to(0, 7202), 8, 7, nil, nil},
		{whole, 8, 7, nil, nil},
		{to(1, maxTime+1), 7, 7, []int64{1}, []int64{1}},
		{to(7200, maxTime+1), 2, 0, []int64{3, 4, 8, 16, 32}, []int64{15, 48}},
		{to(7201, maxTime+1), 1, 0, []int64{3, 4, 8, 16, 32}, []int64{15, 48}},
	} {
		s := scene{l: usual(t), series: "cpu", r: row.r}.does(t, row.points, row.windows)
		l := told(t, s)
		if got := sums(l.mids); !slices.Equal(got, row.mids) {
			t.Fatalf("behind %v Mid's sums are %v, want %v", row.r, got, row.mids)
		}
		if got := sums(l.longs); !slices.Equal(got, row.longs) {
			t.Fatalf("behind %v Long's sums are %v, want %v", row.r, got, row.longs)
		}
		for _, p := range l.points {
			if p.At >= row.r.From && p.At < row.r.To {
				t.Fatalf("behind %v there is %v", row.r, p)
			}
		}
	}
}

// P20.1: points at a range's first and last tick go, those a tick beside them stay.
func TestRangeEnds(t *testing.T) {
	for _, r := range []api.Range{to(1, 2), to(10, 20), to(299, 301), to(300, 600), to(3599, 3602), to(3600, 7200), to(5000, 20_000), to(maxTime-9, maxTime)} {
		l := lists{points: points(r.From-1, r.From, r.To-1, r.To)}
		want := 2
		if r.From == r.To-1 {
			l.points = points(r.From-1, r.From, r.To)
			want = 1
		}
		s := scene{l: l, series: "cpu", r: r}.does(t, want, 0)
		left := s.Points(wide)
		if len(left) != 2 || left[0].At != r.From-1 || left[1].At != r.To {
			t.Fatalf("behind %v %v is left", r, left)
		}
		checkClean(t, "with a point at its first tick", lists{points: points(r.From)}.stock(t), r, false)
		checkClean(t, "with a point at its last tick", lists{points: points(r.To - 1)}.stock(t), r, false)
		checkClean(t, "with points beside it", lists{points: points(r.From-1, r.To)}.stock(t), r, true)
	}
}

// P20.1: Clean asks for the ticks of any range, right or not.
func TestClean(t *testing.T) {
	s := lists{points: points(0, 50, maxTime)}.stock(t)
	for _, row := range []struct {
		r    api.Range
		want bool
	}{
		{to(0, 1), false}, {to(1, 50), true}, {to(1, 51), false}, {to(50, 51), false}, {to(51, maxTime), true}, {to(51, maxTime+1), false}, {whole, false}, {wide, false},
		{to(-5, 0), true}, {to(-5, 1), false}, {to(0, 0), true}, {to(50, 50), true}, {to(51, 50), true}, {to(maxTime, 0), true}, {to(maxTime, maxTime+9), false}, {to(maxTime+1, greatest), true}, {to(1, least), true}, {api.Range{}, true},
	} {
		checkClean(t, "of three points", s, row.r, row.want)
	}
	// Aggregates are no points.
	l := usual(t)
	l.points = nil
	checkClean(t, "of aggregates alone", l.stock(t), whole, true)
}

// P20.1: a stock that isn't rolled: no aggregates change.
func TestNotRolled(t *testing.T) {
	l := lists{points: points(0, 299, 300, 3599, 3600, maxTime)}
	for _, row := range []struct {
		r    api.Range
		want int
	}{
		{to(0, 1), 1}, {to(0, 300), 2}, {to(0, 3600), 4}, {to(299, 3601), 4}, {to(1, 299), 0}, {whole, 6}, {to(maxTime, maxTime+1), 1}, {to(3601, maxTime), 0},
	} {
		scene{l: l, series: "cpu", r: row.r}.does(t, row.want, 0)
	}
}

// P20.1: a stock of which Mid alone is rolled, and one that is rolled whole.
func TestRolled(t *testing.T) {
	l := points(0, 299, 300, 3299, 3300, 3599)
	half, all := rolled(t, 3599, l), rolled(t, 3600, l)
	if len(half.mids) != 3 || len(half.longs) != 0 || len(all.mids) != 4 || len(all.longs) != 1 {
		t.Fatalf("%v, %v", half, all)
	}
	for _, row := range []struct {
		r                 api.Range
		points, half, all int
	}{
		{to(0, 1), 1, 1, 2}, {to(0, 300), 2, 1, 2}, {to(0, 3300), 4, 3, 4}, {to(0, 3600), 6, 3, 5}, {to(3300, 3600), 2, 0, 2}, {to(299, 3301), 4, 3, 5}, {to(3301, 3599), 0, 0, 0}, {whole, 6, 3, 5},
	} {
		scene{l: half, series: "cpu", r: row.r}.does(t, row.points, row.half)
		scene{l: all, series: "cpu", r: row.r}.does(t, row.points, row.all)
	}
}

// P20.1: the last windows of all, that end behind all ticks.
func TestLastWindows(t *testing.T) {
	l := lists{
		points: points(lastLong-1, lastLong, maxTime-1, maxTime),
		mids:   []api.Agg{one(lastLong-mid, 1), one(lastLong, 2), {At: 1_099_511_627_700, Count: 2, Sum: 12, Min: 4, Max: 8}},
		longs:  []api.Agg{one(lastLong-long, 1), {At: lastLong, Count: 3, Sum: 14, Min: 2, Max: 8}},
		marks:  [3]int64{0, 1_099_511_631_300, 1_099_511_629_200},
	}
	for _, row := range []struct {
		r               api.Range
		points, windows int
	}{
		{to(maxTime, maxTime+1), 1, 2}, {to(maxTime-1, maxTime+1), 2, 2}, {to(maxTime-1, maxTime), 1, 2}, {to(lastLong, maxTime+1), 3, 3}, {to(lastLong-1, maxTime+1), 4, 5}, {to(lastLong-1, lastLong), 1, 2},
		{to(lastLong-1, lastLong+1), 2, 4}, {to(0, lastLong), 1, 2}, {to(0, lastLong-1), 0, 0}, {to(0, maxTime), 3, 5}, {to(lastLong+1, maxTime-1), 0, 0}, {whole, 4, 5},
	} {
		scene{l: l, series: "cpu", r: row.r}.does(t, row.points, row.windows)
	}
}

// P20.1: windows that tell of points that were dropped change, though no point goes.
func TestDropped(t *testing.T) {
	l := usual(t)
	l.points = points(0, 299, 300, 3599, 3600, 7199)[1:]
	scene{l: l, series: "cpu", r: to(0, 1)}.does(t, 0, 2)
	scene{l: l, series: "cpu", r: to(150, 151)}.does(t, 0, 2)
	scene{l: l, series: "cpu", r: to(300, 3600)}.does(t, 2, 3)
	l.points = nil
	scene{l: l, series: "cpu", r: to(300, 301)}.does(t, 0, 2)
	scene{l: l, series: "cpu", r: to(600, 601)}.does(t, 0, 0)
	scene{l: l, series: "cpu", r: to(0, 3600)}.does(t, 0, 4)
	scene{l: l, series: "cpu", r: whole}.does(t, 0, 7)
	// Where Mid's aggregates were dropped, too, Long's go.
	l.mids = nil
	scene{l: l, series: "cpu", r: to(600, 601)}.does(t, 0, 1)
	scene{l: l, series: "cpu", r: to(600, 3601)}.does(t, 0, 2)
	scene{l: l, series: "cpu", r: whole}.does(t, 0, 2)
	l = usual(t)
	l.mids, l.longs = nil, nil
	scene{l: l, series: "cpu", r: to(0, 3600)}.does(t, 4, 0)
}

// P20.1: an aggregate that is told as before, though points of its window went, doesn't count.
func TestToldAsBefore(t *testing.T) {
	l := lists{
		points: []api.Point{{At: 10, Value: 5}, {At: 20, Value: 7}},
		mids:   []api.Agg{one(0, 5)},
		longs:  []api.Agg{one(0, 5)},
		marks:  [3]int64{0, 3600, 3600},
	}
	scene{l: l, series: "cpu", r: to(20, 21)}.does(t, 1, 0)
	scene{l: l, series: "cpu", r: to(10, 11)}.does(t, 1, 2)
	scene{l: l, series: "cpu", r: to(10, 21)}.does(t, 2, 2)
	l.mids = []api.Agg{{At: 0, Count: 2, Sum: 12, Min: 5, Max: 7}}
	scene{l: l, series: "cpu", r: to(20, 21)}.does(t, 1, 1)
	l.longs = l.mids
	l.mids = []api.Agg{one(0, 5)}
	scene{l: l, series: "cpu", r: to(20, 21)}.does(t, 1, 1)
	// Each field counts.
	for _, a := range []api.Agg{{Count: 2, Sum: 5, Min: 5, Max: 5}, {Count: 1, Sum: 6, Min: 5, Max: 5}, {Count: 1, Sum: 5, Min: 4, Max: 5}, {Count: 1, Sum: 5, Min: 5, Max: 6}} {
		l.mids, l.longs = []api.Agg{a}, []api.Agg{one(0, 5)}
		scene{l: l, series: "cpu", r: to(20, 21)}.does(t, 1, 1)
		l.mids, l.longs = []api.Agg{one(0, 5)}, []api.Agg{a}
		scene{l: l, series: "cpu", r: to(20, 21)}.does(t, 1, 1)
	}
}

// P20.1: an aggregate that becomes as one of the other tier was counts all the same.
func TestAsOtherTier(t *testing.T) {
	l := lists{
		points: []api.Point{{At: 10, Value: 5}, {At: 20, Value: 7}, {At: 310, Value: 3}},
		mids:   []api.Agg{{At: 0, Count: 2, Sum: 12, Min: 5, Max: 7}, one(300, 3)},
		longs:  []api.Agg{one(0, 5)},
		marks:  [3]int64{0, 3600, 3600},
	}
	scene{l: l, series: "cpu", r: to(20, 21)}.does(t, 1, 2)
	l.points, l.mids, l.longs = l.points[:2], l.mids[:1], []api.Agg{{At: 0, Count: 2, Sum: 12, Min: 5, Max: 7}}
	scene{l: l, series: "cpu", r: to(20, 21)}.does(t, 1, 2)
	scene{l: l, series: "cpu", r: to(10, 21)}.does(t, 2, 2)
	l.longs = []api.Agg{one(0, 5)}
	scene{l: l, series: "cpu", r: to(20, 21)}.does(t, 1, 1)
}

// P20.1: windows of which some points went, all, or none, in one range.
func TestSomeAllNone(t *testing.T) {
	l := rolled(t, 10_800, points(10, 20, 310, 320, 610, 700, 3700, 3800, 7300))
	scene{l: l, series: "cpu", r: to(15, 620)}.does(t, 4, 4)  // one of 0, both of 300, one of 600; Long's first
	scene{l: l, series: "cpu", r: to(21, 310)}.does(t, 0, 0)  // windows that it meets, without a point of theirs
	scene{l: l, series: "cpu", r: to(21, 400)}.does(t, 2, 2)  // none of 0, both of 300
	scene{l: l, series: "cpu", r: to(320, 611)}.does(t, 2, 3) // one of 300, one of 600
	scene{l: l, series: "cpu", r: to(21, 7300)}.does(t, 6, 5) // none of 0, all of 300, 600, 3600, none of 7200
	scene{l: l, series: "cpu", r: to(3750, 7301)}.does(t, 2, 4)
}
