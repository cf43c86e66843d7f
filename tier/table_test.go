package tier_test

import (
	"maps"
	"math"
	"slices"
	"testing"

	"catacomb/api"
	"catacomb/tier"
)

const (
	least    = math.MinInt64
	greatest = math.MaxInt64
	maxTime  = 1099511627776 // 2 to the power of 40
	most     = 256           // points of a stock, and aggregates of a tier
	mid      = 300           // ticks of a Mid window
	long     = 3600          // ticks of a Long window
)

// widths are how many ticks the tiers' windows have.
var widths = [3]int64{1, mid, long}

// whole is a range of all ticks that there are, and wide one of all numbers but the greatest.
var (
	whole = api.Range{From: 0, To: maxTime + 1}
	wide  = api.Range{From: least, To: greatest}
)

// noTiers are numbers of no tier.
func noTiers() []int {
	return []int{-1, -2, -3, -300, 3, 4, 5, 255, 256, 257, 258, 300, 3600, 1 << 32, 1<<32 + 1, 1<<32 + 2, math.MinInt, math.MinInt + 1, math.MinInt + 2, math.MaxInt, math.MaxInt - 1}
}

// plus is a sum, or the nearest number.
func plus(a, b int64) int64 {
	if b > 0 && a > greatest-b {
		return greatest
	}
	if b < 0 && a < least-b {
		return least
	}
	return a + b
}

// joined is what aggregates, one at least, come to, from the first one to the last one.
func joined(at int64, l []api.Agg) api.Agg {
	all := l[0]
	all.At = at
	for _, a := range l[1:] {
		all.Count, all.Sum = plus(all.Count, a.Count), plus(all.Sum, a.Sum)
		all.Min, all.Max = min(all.Min, a.Min), max(all.Max, a.Max)
	}
	return all
}

// table is a plain table of ticks, and of windows by where they begin.
type table struct {
	points map[int64]int64
	aggs   [3]map[int64]api.Agg
	marks  [3]int64
}

// empty is a table of nothing.
func empty() *table {
	return &table{points: map[int64]int64{}, aggs: [3]map[int64]api.Agg{{}, {}, {}}}
}

// tableOf is a table of what Restore is handed in.
func tableOf(points []api.Point, mids, longs []api.Agg, marks [3]int64) *table {
	b := empty()
	for _, p := range points {
		b.points[p.At] = p.Value
	}
	for tier, l := range [3][]api.Agg{nil, mids, longs} {
		for _, a := range l {
			b.aggs[tier][a.At] = a
		}
	}
	b.marks = marks
	return b
}

func (b *table) copy() *table {
	c := &table{points: maps.Clone(b.points), marks: b.marks}
	for tier, m := range b.aggs {
		c.aggs[tier] = maps.Clone(m)
	}
	return c
}

// has tells whether a window has some of a range, by its first and last ticks.
func has(from, width int64, r api.Range) bool {
	return r.From < r.To && r.From <= from+width-1 && r.To-1 >= from
}

// get is the points of a range, rising.
func (b *table) get(r api.Range) []api.Point {
	var l []api.Point
	for _, at := range slices.Sorted(maps.Keys(b.points)) {
		if at >= r.From && at < r.To {
			l = append(l, api.Point{At: at, Value: b.points[at]})
		}
	}
	return l
}

// getAggs is the aggregates of a tier whose window has some of a range, rising.
func (b *table) getAggs(tier int, r api.Range) []api.Agg {
	if tier != 1 && tier != 2 {
		return nil
	}
	var l []api.Agg
	for _, at := range slices.Sorted(maps.Keys(b.aggs[tier])) {
		if has(at, widths[tier], r) {
			l = append(l, b.aggs[tier][at])
		}
	}
	return l
}

func (b *table) put(l []api.Point) (int, api.Errno) {
	next := maps.Clone(b.points)
	var low, out bool
	for _, p := range l {
		low = low || p.At < b.marks[1]
		out = out || p.At < 0 || p.At > maxTime
		next[p.At] = p.Value
	}
	switch {
	case low:
		return 0, api.ErrState
	case out:
		return 0, api.ErrRange
	case len(next) > most:
		return 0, api.ErrFull
	}
	fresh := len(next) - len(b.points)
	b.points = next
	return fresh, api.OK
}

func (b *table) free(l []api.Point) int {
	ticks := map[int64]int{}
	for _, p := range l {
		if _, there := b.points[p.At]; !there {
			ticks[p.At]++
		}
	}
	return len(ticks)
}

// parts is what a tier's aggregates are made of, each as an aggregate, rising.
func (b *table) parts(tier int) []api.Agg {
	if tier == 2 {
		return b.getAggs(1, wide)
	}
	var l []api.Agg
	for _, p := range b.get(wide) {
		l = append(l, api.Agg{At: p.At, Count: 1, Sum: p.Value, Min: p.Value, Max: p.Value})
	}
	return l
}

// within is the parts that begin in a window.
func within(l []api.Agg, from, width int64) []api.Agg {
	var in []api.Agg
	for _, a := range l {
		if a.At >= from && a.At < from+width {
			in = append(in, a)
		}
	}
	return in
}

// rollTier goes from window to window, as far as they end at a tick, or ahead; behind all parts there is nothing to be gone through.
func (b *table) rollTier(tier int, to int64) (made int, full bool) {
	parts, width := b.parts(tier), widths[tier]
	for b.marks[tier]+width <= to {
		from := b.marks[tier]
		if len(parts) == 0 || parts[len(parts)-1].At < from {
			b.marks[tier] = to / width * width
			break
		}
		if in := within(parts, from, width); len(in) > 0 {
			if len(b.aggs[tier]) == most {
				return made, true
			}
			b.aggs[tier][from] = joined(from, in)
			made++
		}
		b.marks[tier] += width
	}
	return made, false
}

func (b *table) roll(now int64) (int, api.Errno) {
	if now < 0 || now > maxTime {
		return 0, api.ErrRange
	}
	mids, midFull := b.rollTier(1, now)
	longs, longFull := b.rollTier(2, min(now, b.marks[1]))
	if midFull || longFull {
		return mids + longs, api.ErrFull
	}
	return mids + longs, api.OK
}

func (b *table) purge(r api.Range) int {
	if r.From < 0 || r.From >= r.To || r.To > maxTime+1 {
		return 0
	}
	gone := b.get(r)
	for _, p := range gone {
		delete(b.points, p.At)
	}
	for tier := 1; tier <= 2; tier++ {
		parts := b.parts(tier)
		for _, a := range b.getAggs(tier, r) {
			delete(b.aggs[tier], a.At)
			if in := within(parts, a.At, widths[tier]); len(in) > 0 {
				b.aggs[tier][a.At] = joined(a.At, in)
			}
		}
	}
	return len(gone)
}

// ranges is a tier's points, or aggregates, as ranges.
func (b *table) ranges(tier int) []api.Range {
	var l []api.Range
	if tier == 0 {
		for _, p := range b.get(wide) {
			l = append(l, api.Range{From: p.At, To: p.At + 1})
		}
	}
	for _, a := range b.getAggs(tier, wide) {
		l = append(l, api.Range{From: a.At, To: a.At + widths[tier]})
	}
	return l
}

func (b *table) drop(tier int, gone func(api.Range) bool) int {
	n := 0
	for _, r := range b.ranges(tier) {
		if gone(r) {
			n++
			if tier == 0 {
				delete(b.points, r.From)
			} else {
				delete(b.aggs[tier], r.From)
			}
		}
	}
	return n
}

func (b *table) bytes() int {
	return len(b.points)*16 + len(b.aggs[1])*40 + len(b.aggs[2])*40
}

// points are those of some ticks, their values 10, 11 and so on.
func points(ticks ...int64) []api.Point {
	var l []api.Point
	for i, at := range ticks {
		l = append(l, api.Point{At: at, Value: int64(i) + 10})
	}
	return l
}

// row is n points, at from, from and step, and so on, of values beside their numbers.
func row(n int, from, step, value int64) []api.Point {
	var l []api.Point
	for i := range int64(n) {
		l = append(l, api.Point{At: from + i*step, Value: value + i})
	}
	return l
}

// aggs are n right ones, at from, from and step, and so on, each other than the one ahead.
func aggs(n int, from, step int64) []api.Agg {
	var l []api.Agg
	for i := range int64(n) {
		l = append(l, api.Agg{At: from + i*step, Count: i + 1, Sum: 7 - i, Min: -i, Max: i})
	}
	return l
}

// short is a list, as far as it is told beside a fault.
func short[T any](l []T) []T { return l[:min(len(l), 9)] }

func checkList[T comparable](t *testing.T, what string, got, want []T) {
	t.Helper()
	if !slices.Equal(got, want) {
		t.Fatalf("%s: %v (%d), want %v (%d)", what, short(got), len(got), short(want), len(want))
	}
}

func checkNumber[N int | int64](t *testing.T, what string, got, want N) {
	t.Helper()
	if got != want {
		t.Fatalf("%s: %d, want %d", what, got, want)
	}
}

// both is a stock, and a table that is told the same.
type both struct {
	t *testing.T
	s *tier.Stock
	b *table
}

// fresh is a new stock, and a table of nothing.
func fresh(t *testing.T) *both { return &both{t: t, s: tier.New(), b: empty()} }

// restored is a stock that Restore makes of these, and their table.
func restored(t *testing.T, points []api.Point, mids, longs []api.Agg, marks [3]int64) *both {
	t.Helper()
	s, e := tier.Restore(points, mids, longs, marks)
	if s == nil || e != api.OK {
		t.Fatalf("Restore(%v, %v, %v, %v): %v, %d", short(points), short(mids), short(longs), marks, s, int(e))
	}
	x := &both{t: t, s: s, b: tableOf(points, mids, longs, marks)}
	x.check()
	return x
}

// again is a stock that Restore makes of all that one tells.
func again(t *testing.T, s *tier.Stock) *tier.Stock {
	t.Helper()
	c, e := tier.Restore(s.Points(whole), s.Aggs(api.Mid, wide), s.Aggs(api.Long, wide), [3]int64{0, s.Mark(api.Mid), s.Mark(api.Long)})
	if c == nil || e != api.OK {
		t.Fatalf("Restore of what a stock tells: %v, %d", c, int(e))
	}
	return c
}

// check holds all that the stock tells.
func (x *both) check() {
	x.t.Helper()
	for i, n := range [3]int{len(x.b.points), len(x.b.aggs[1]), len(x.b.aggs[2])} {
		checkNumber(x.t, "Len", x.s.Len(i), n)
		checkNumber(x.t, "Mark", x.s.Mark(i), x.b.marks[i])
	}
	checkNumber(x.t, "Bytes", x.s.Bytes(), x.b.bytes())
	x.look(wide)
	x.look(whole)
}

// look holds what the stock tells of a range.
func (x *both) look(r api.Range) {
	x.t.Helper()
	if got, want := x.s.Points(r), x.b.get(r); !slices.Equal(got, want) {
		x.t.Fatalf("Points(%v): %v (%d), want %v (%d)", r, short(got), len(got), short(want), len(want))
	}
	for i := range 3 {
		if got, want := x.s.Aggs(i, r), x.b.getAggs(i, r); !slices.Equal(got, want) {
			x.t.Fatalf("Aggs(%d, %v): %v (%d), want %v (%d)", i, r, short(got), len(got), short(want), len(want))
		}
	}
}

// act holds the answer to a call against what the table tells, and all that is there behind it.
func (x *both) act(what string, n int, e api.Errno, want int, wantE api.Errno) {
	x.t.Helper()
	if n != want || e != wantE {
		x.t.Fatalf("%s: %d, %d, want %d, %d", what, n, int(e), want, int(wantE))
	}
	x.check()
}

func (x *both) put(l []api.Point) (int, api.Errno) {
	x.t.Helper()
	n, e := x.s.Put(l)
	want, wantE := x.b.put(l)
	x.act("Put", n, e, want, wantE)
	return n, e
}

func (x *both) roll(now int64) (int, api.Errno) {
	x.t.Helper()
	n, e := x.s.Roll(now)
	want, wantE := x.b.roll(now)
	x.act("Roll", n, e, want, wantE)
	return n, e
}

func (x *both) purge(r api.Range) int {
	x.t.Helper()
	n := x.s.Purge(r)
	x.act("Purge", n, api.OK, x.b.purge(r), api.OK)
	return n
}

// drop also holds what is told of, one by one.
func (x *both) drop(i int, gone func(api.Range) bool) int {
	x.t.Helper()
	var told []api.Range
	want := x.b.ranges(i)
	n := x.s.Drop(i, func(r api.Range) bool {
		told = append(told, r)
		return gone(r)
	})
	checkList(x.t, "told by Drop", told, want)
	x.act("Drop", n, api.OK, x.b.drop(i, gone), api.OK)
	return n
}

func (x *both) free(l []api.Point) int {
	x.t.Helper()
	n := x.s.Free(l)
	x.act("Free", n, api.OK, x.b.free(l), api.OK)
	return n
}

// copy is one apart, and a table apart.
func (x *both) copy() *both {
	x.t.Helper()
	c := &both{t: x.t, s: x.s.Copy(), b: x.b.copy()}
	c.check()
	return c
}

// want holds answers that are written by hand.
func (x *both) want(n int, e api.Errno) func(int, api.Errno) {
	return func(got int, gotE api.Errno) {
		x.t.Helper()
		if got != n || gotE != e {
			x.t.Fatalf("told %d, %d, want %d, %d", got, int(gotE), n, int(e))
		}
	}
}

// marks holds both marks.
func (x *both) marks(mids, longs int64) {
	x.t.Helper()
	checkNumber(x.t, "Mid's mark", x.s.Mark(api.Mid), mids)
	checkNumber(x.t, "Long's mark", x.s.Mark(api.Long), longs)
}

// lens holds how many there are of each tier.
func (x *both) lens(points, mids, longs int) {
	x.t.Helper()
	checkNumber(x.t, "points", x.s.Len(api.Raw), points)
	checkNumber(x.t, "Mid aggregates", x.s.Len(api.Mid), mids)
	checkNumber(x.t, "Long aggregates", x.s.Len(api.Long), longs)
}

// every is told of all, and none of nothing.
func every(api.Range) bool { return true }
func none(api.Range) bool  { return false }

// at is told of what begins at one of these ticks.
func at(ticks ...int64) func(api.Range) bool {
	return func(r api.Range) bool { return slices.Contains(ticks, r.From) }
}
