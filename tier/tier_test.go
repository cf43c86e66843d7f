package tier_test

import (
	"math"
	"slices"
	"testing"

	"catacomb/api"
	"catacomb/tier"
)

// The last windows that end at MaxTime or ahead end at these ticks.
const (
	lastMid  = 1099511627700
	lastLong = 1099511625600
)

// P16.1: the chapter's example.
func TestExample(t *testing.T) {
	x := fresh(t)
	x.want(2, api.OK)(x.put(points(10, 20)))
	x.want(1, api.OK)(x.roll(300))
	checkList(t, "Mid", x.s.Aggs(api.Mid, whole), []api.Agg{{At: 0, Count: 2, Sum: 21, Min: 10, Max: 11}})
	x.want(0, api.ErrState)(x.put(points(30)))
}

// P16.1: New has nothing, and each is one of its own.
func TestNew(t *testing.T) {
	x, y := fresh(t), fresh(t)
	x.check()
	x.marks(0, 0)
	x.lens(0, 0, 0)
	x.want(0, api.OK)(x.roll(0))
	x.want(1, api.OK)(x.put(points(299)))
	x.want(2, api.OK)(x.roll(long))
	y.check()
	fresh(t).check()
}

// P16.1: what a new stock is asked to give up, it hasn't.
func TestNewGivesNothing(t *testing.T) {
	x := fresh(t)
	checkNumber(t, "Purge", x.purge(whole), 0)
	for i := range 3 {
		checkNumber(t, "Drop", x.drop(i, every), 0)
	}
	checkNumber(t, "Free", x.free(points(1, 2)), 2)
	x.copy()
	x.want(0, api.OK)(x.roll(maxTime))
	x.marks(lastMid, lastLong)
	x.lens(0, 0, 0)
}

// P16.1: no points, be it as nil or as an empty list.
func TestPutNothing(t *testing.T) {
	for _, l := range [][]api.Point{nil, {}, make([]api.Point, 0, 9)} {
		x := fresh(t)
		x.want(0, api.OK)(x.put(l))
		x.want(2, api.OK)(x.put(points(299, 300)))
		x.want(0, api.OK)(x.put(l))
		x.roll(600)
		x.want(0, api.OK)(x.put(l))
		checkNumber(t, "Free", x.free(l), 0)
		x = full(t)
		x.want(0, api.OK)(x.put(l))
	}
}

// full is a stock of as many points as go in, from 0 on, rolled up to none of them.
func full(t *testing.T) *both {
	t.Helper()
	x := fresh(t)
	x.want(most, api.OK)(x.put(row(most, 0, 7, -3)))
	return x
}

// P16.1: ticks below, at and above Mid's mark, alone and amid others.
func TestPutAtMark(t *testing.T) {
	for _, now := range []int64{0, 1, 299, 300, 599, 600, 3599, 3600, 7200, 1 << 20, maxTime - 400} {
		x := fresh(t)
		x.roll(now)
		mark := now / mid * mid
		for _, tick := range []int64{mark - 3600, mark - 300, mark - 299, mark - 2, mark - 1} {
			low := api.Point{At: tick, Value: 5}
			x.want(0, api.ErrState)(x.put([]api.Point{low}))
			for i := range 4 {
				x.want(0, api.ErrState)(x.put(slices.Insert(points(mark+9, mark, mark+5), i, low)))
			}
		}
		x.lens(0, 0, 0)
		for _, tick := range []int64{mark, mark + 1, mark + 299, mark + 300} {
			x.want(1, api.OK)(x.put(points(tick)))
		}
		x.want(1, api.OK)(x.put(points(mark+301, mark, mark)))
		checkList(t, "Points", x.s.Points(api.Range{From: mark, To: mark + 1}), []api.Point{{At: mark, Value: 12}})
	}
}

// P16.1: it is Mid's mark that counts, not Long's, nor the last Roll's tick.
func TestPutAboveMark(t *testing.T) {
	x := fresh(t)
	x.want(1, api.OK)(x.put(points(10)))
	x.want(1, api.OK)(x.roll(3599))
	x.marks(3300, 0)
	x.want(0, api.ErrState)(x.put(points(3299)))
	x.want(0, api.ErrState)(x.put(points(10)))
	x.want(2, api.OK)(x.put(points(3300, 3599)))
	x.want(2, api.OK)(x.roll(3600))
	x.marks(3600, 3600)
	x.want(0, api.ErrState)(x.put(points(3599)))
	x.want(1, api.OK)(x.put(points(3600)))
}

// P16.1: ticks below 0 are below each mark; those above MaxTime are chapter 14's to refuse.
func TestPutOutside(t *testing.T) {
	low := []int64{-1, -2, -256, -300, -301, -3600, -maxTime, least, least + 1}
	high := []int64{maxTime + 1, maxTime + 2, maxTime + 76, maxTime + 300, maxTime + 3600, maxTime + 3601, 2 * maxTime, 1 << 53, greatest - 1, greatest}
	for _, now := range []int64{0, 600} {
		x := fresh(t)
		x.want(1, api.OK)(x.put(points(700)))
		x.roll(now)
		for _, tick := range low {
			for i := range 3 {
				x.want(0, api.ErrState)(x.put(slices.Insert(points(700, 900), i, api.Point{At: tick})))
			}
			x.want(0, api.ErrState)(x.put(points(tick)))
		}
		for _, tick := range high {
			for i := range 3 {
				x.want(0, api.ErrRange)(x.put(slices.Insert(points(700, 900), i, api.Point{At: tick})))
			}
			x.want(0, api.ErrRange)(x.put(points(tick)))
		}
		for _, l := range [][]api.Point{points(-1, maxTime+1), points(maxTime+1, -1), points(maxTime+1, 800, -1)} {
			x.want(0, api.ErrState)(x.put(l))
		}
		x.lens(1, 0, 0)
		x.want(2, api.OK)(x.put(points(maxTime, maxTime-1)))
	}
}

// P16.1: ErrState is ahead of ErrRange, that ahead of ErrFull.
func TestPutErrors(t *testing.T) {
	x := full(t)
	x.roll(600)
	state, outside := api.Point{At: 599}, api.Point{At: maxTime + 1}
	for _, more := range []api.Point{{At: 601}, {At: maxTime}} {
		x.want(0, api.ErrFull)(x.put([]api.Point{more}))
		x.want(0, api.ErrRange)(x.put([]api.Point{more, outside}))
		x.want(0, api.ErrRange)(x.put([]api.Point{outside, more}))
		x.want(0, api.ErrState)(x.put([]api.Point{more, outside, state}))
		x.want(0, api.ErrState)(x.put([]api.Point{state, outside, more}))
		x.want(0, api.ErrState)(x.put([]api.Point{state, more}))
		x.want(0, api.ErrState)(x.put([]api.Point{outside, state}))
	}
	// A point that is there may have another value, but not below the mark.
	x.want(0, api.OK)(x.put([]api.Point{{At: 602, Value: 1}, {At: 609, Value: 2}}))
	x.want(0, api.ErrState)(x.put([]api.Point{{At: 602, Value: 3}, {At: 595, Value: 4}}))
	x.want(0, api.ErrState)(x.put([]api.Point{{At: 595, Value: 4}}))
}

// P16.1: as many points as may be, at once and one by one, and not one more.
func TestPutMost(t *testing.T) {
	x := fresh(t)
	x.want(0, api.ErrFull)(x.put(row(most+1, 0, 1, 0)))
	x.want(most-1, api.OK)(x.put(row(most-1, 0, 1, 0)))
	x.want(0, api.ErrFull)(x.put(points(5, 1000, 1001)))
	x.want(1, api.OK)(x.put(points(5, 1000, 1000)))
	x.want(0, api.ErrFull)(x.put(points(5, 1001)))
	x.want(0, api.OK)(x.put(row(most-1, 0, 1, 50)))
	x.lens(most, 0, 0)
	checkNumber(t, "Bytes", x.s.Bytes(), most*16)
	// What was rolled takes room, till it goes.
	x.want(1, api.OK)(x.roll(300))
	x.want(0, api.ErrFull)(x.put(points(300)))
	checkNumber(t, "Drop", x.drop(api.Raw, at(0, 7)), 2)
	x.want(0, api.ErrFull)(x.put(points(300, 301, 302)))
	x.want(2, api.OK)(x.put(points(300, 301)))
	checkNumber(t, "Purge", x.purge(api.Range{From: 10, To: 13}), 3)
	x.want(3, api.OK)(x.put(row(3, 302, 1, 0)))
	x.want(0, api.ErrFull)(x.put(points(305)))
}

// P16.1: how many ticks aren't there, whether they may be put or not.
func TestFree(t *testing.T) {
	x := fresh(t)
	x.put(points(10, 20, 700))
	x.roll(600)
	checkNumber(t, "Free", x.free(points(10)), 0)
	checkNumber(t, "Free", x.free(points(10, 20, 700, 10)), 0)
	checkNumber(t, "Free", x.free(points(11, 11, 11)), 1)
	checkNumber(t, "Free", x.free(points(701, 10, 701, 11, 700)), 2)
	checkNumber(t, "Free", x.free(points(-1, maxTime+1, least, greatest, -1)), 4)
	checkNumber(t, "Free", x.free(row(most+300, 0, 1, 0)), most+300-2)
	x.drop(api.Raw, at(10))
	checkNumber(t, "Free", x.free(points(10, 20)), 1)
	x.purge(whole)
	checkNumber(t, "Free", x.free(points(10, 20, 700)), 3)
}

// P16.1: at each tick the windows that end there, or ahead, at once and step by step.
func TestRollTicks(t *testing.T) {
	l := append(row(26, 0, 299, 5), row(26, 300, 300, -9)...)
	steps := fresh(t)
	steps.put(l)
	for now := int64(0); now <= 8100; now++ {
		at := fresh(t)
		at.s.Put(l)
		at.b.put(l)
		was := steps.s.Len(api.Mid) + steps.s.Len(api.Long)
		n, e := at.roll(now)
		m, f := steps.roll(now)
		if e != api.OK || f != api.OK || n != was+m {
			t.Fatalf("at %d: %d, %d at once, behind %d %d, %d", now, n, int(e), was, m, int(f))
		}
		at.marks(now/mid*mid, now/long*long)
		steps.marks(now/mid*mid, now/long*long)
		checkList(t, "Mid", at.s.Aggs(api.Mid, wide), steps.s.Aggs(api.Mid, wide))
		checkList(t, "Long", at.s.Aggs(api.Long, wide), steps.s.Aggs(api.Long, wide))
	}
}

// P16.1: a window's last tick isn't its end.
func TestRollEnds(t *testing.T) {
	x := fresh(t)
	x.put([]api.Point{{At: 0, Value: 4}, {At: 299, Value: -6}, {At: 300, Value: 1}, {At: 3599, Value: 2}, {At: 3600, Value: 8}})
	x.want(0, api.OK)(x.roll(0))
	x.want(0, api.OK)(x.roll(299))
	x.marks(0, 0)
	x.want(1, api.OK)(x.roll(300))
	checkList(t, "Mid", x.s.Aggs(api.Mid, whole), []api.Agg{{At: 0, Count: 2, Sum: -2, Min: -6, Max: 4}})
	x.marks(300, 0)
	x.want(0, api.OK)(x.roll(301))
	x.want(1, api.OK)(x.roll(3599))
	x.marks(3300, 0)
	x.want(2, api.OK)(x.roll(3600))
	x.marks(3600, 3600)
	x.want(0, api.OK)(x.roll(3601))
	checkList(t, "Mid", x.s.Aggs(api.Mid, whole), []api.Agg{{At: 0, Count: 2, Sum: -2, Min: -6, Max: 4}, {At: 300, Count: 1, Sum: 1, Min: 1, Max: 1}, {At: 3300, Count: 1, Sum: 2, Min: 2, Max: 2}})
	checkList(t, "Long", x.s.Aggs(api.Long, whole), []api.Agg{{At: 0, Count: 4, Sum: 1, Min: -6, Max: 4}})
}

// P16.1: outside of 0 to MaxTime nothing is rolled.
func TestRollOutside(t *testing.T) {
	x := fresh(t)
	x.put(points(5, 400, maxTime))
	for _, roll := range []int64{0, 300} {
		x.roll(roll)
		for _, now := range []int64{-1, -2, -300, -3600, -maxTime, least, least + 1, maxTime + 1, maxTime + 2, maxTime + 224, maxTime + 3600, 1 << 62, greatest - 1, greatest} {
			x.want(0, api.ErrRange)(x.roll(now))
			x.marks(roll, 0)
		}
	}
}

// P16.1: at the same tick again, and at a lower one, nothing is made, and marks stay.
func TestRollBack(t *testing.T) {
	x := fresh(t)
	x.put(row(40, 0, 250, 1))
	x.want(25+2, api.OK)(x.roll(7777))
	for _, now := range []int64{7777, 7776, 7500, 7499, 7200, 7199, 3600, 3599, 300, 299, 1, 0, 7777} {
		x.want(0, api.OK)(x.roll(now))
		x.marks(7500, 7200)
	}
	x.put(row(3, 7500, 1, 1))
	x.want(1, api.OK)(x.roll(7800))
}

// P16.1: from the first tick to the last one, over billions of windows without points.
func TestRollFar(t *testing.T) {
	x := fresh(t)
	l := []api.Point{{At: 0, Value: 1}, {At: 299, Value: 2}, {At: 1 << 30, Value: 3}, {At: lastMid - 1, Value: 4}, {At: lastMid, Value: 5}, {At: maxTime, Value: 6}}
	x.want(6, api.OK)(x.put(l))
	n, e := x.s.Roll(maxTime)
	x.want(3+2, api.OK)(n, e)
	x.marks(lastMid, lastLong)
	checkList(t, "Mid", x.s.Aggs(api.Mid, whole), []api.Agg{
		{At: 0, Count: 2, Sum: 3, Min: 1, Max: 2},
		{At: 1 << 30 / 300 * 300, Count: 1, Sum: 3, Min: 3, Max: 3},
		{At: lastMid - 300, Count: 1, Sum: 4, Min: 4, Max: 4},
	})
	checkList(t, "Long", x.s.Aggs(api.Long, whole), []api.Agg{
		{At: 0, Count: 2, Sum: 3, Min: 1, Max: 2},
		{At: 1 << 30 / 3600 * 3600, Count: 1, Sum: 3, Min: 3, Max: 3},
	})
	checkList(t, "Points", x.s.Points(whole), l)
	x.want(0, api.OK)(x.s.Roll(maxTime))
	x.want(0, api.OK)(x.s.Put(points(maxTime, lastMid)))
	x.want(0, api.ErrState)(x.s.Put(points(lastMid - 1)))
}

// P16.1: far on at once is the same as by far steps.
func TestRollFarSteps(t *testing.T) {
	l := row(250, 17, 4398046511, 3)
	once, steps := tier.New(), tier.New()
	once.Put(l)
	steps.Put(l)
	made, e := once.Roll(maxTime)
	if made != 500 || e != api.OK {
		t.Fatalf("Roll(MaxTime): %d, %d", made, int(e))
	}
	total := 0
	for now := int64(0); now <= maxTime; now += 1 << 28 {
		n, e := steps.Roll(now)
		if e != api.OK {
			t.Fatalf("Roll(%d): %d", now, int(e))
		}
		total += n
	}
	checkNumber(t, "made by steps", total, made)
	checkSame(t, once, steps)
	for i, p := range l {
		m, g := once.Aggs(api.Mid, wide)[i], once.Aggs(api.Long, wide)[i]
		want := api.Agg{At: p.At / mid * mid, Count: 1, Sum: p.Value, Min: p.Value, Max: p.Value}
		if m != want {
			t.Fatalf("Mid of %v: %v", p, m)
		}
		if want.At = p.At / long * long; g != want {
			t.Fatalf("Long of %v: %v", p, g)
		}
	}
}

// P16.1: sums saturate from step to step, in the order of the ticks, those of Long by the Mid aggregates.
func TestRollSums(t *testing.T) {
	x := fresh(t)
	x.put([]api.Point{{At: 20, Value: -5}, {At: 0, Value: greatest}, {At: 10, Value: 7}, {At: 310, Value: least}, {At: 300, Value: -1}, {At: 320, Value: 2}})
	x.want(3, api.OK)(x.roll(long))
	checkList(t, "Mid", x.s.Aggs(api.Mid, whole), []api.Agg{
		{At: 0, Count: 3, Sum: greatest - 5, Min: -5, Max: greatest},
		{At: 300, Count: 3, Sum: least + 2, Min: least, Max: 2},
	})
	checkList(t, "Long", x.s.Aggs(api.Long, whole), []api.Agg{{At: 0, Count: 6, Sum: -4, Min: least, Max: greatest}})
}

// P16.1: Long is rolled only as far as Mid is.
func TestRollLongWaits(t *testing.T) {
	x := fresh(t)
	x.want(most, api.OK)(x.put(row(most, 0, mid, 1)))
	x.want(most+21, api.OK)(x.roll(most * mid)) // 76800
	x.marks(76800, 75600)
	x.drop(api.Raw, every)
	x.want(2, api.OK)(x.put(points(76799+300, 79200)))
	for range 2 {
		x.want(0, api.ErrFull)(x.roll(90000))
		x.marks(76800, 75600)
	}
	x.drop(api.Mid, at(600))
	// The Long window of 75600 has all its Mid windows now, that of 79200 hasn't.
	x.want(2, api.ErrFull)(x.roll(90000))
	x.marks(79200, 79200)
	checkList(t, "Long", x.s.Aggs(api.Long, api.Range{From: 75600, To: 79200}), []api.Agg{{At: 75600, Count: 5, Sum: 253 + 254 + 255 + 256 + 10, Min: 10, Max: 256}})
	x.drop(api.Mid, at(0))
	x.want(2, api.OK)(x.roll(90000))
	x.marks(90000, 90000)
	x.lens(2, most, 23)
}

// P16.1: a Long window that isn't closed isn't rolled, though Mid's mark is behind it.
func TestRollLongOpen(t *testing.T) {
	mids := aggs(30, 0, mid)
	for now := int64(0); now <= 9100; now += 50 {
		x := restored(t, nil, mids, nil, [3]int64{0, 9000, 0})
		x.want(int(min(now, 9000)/long), api.OK)(x.roll(now))
		x.marks(9000, min(now, 9000)/long*long)
	}
}

// P16.1: Mid stops ahead of the window whose aggregate doesn't go in; the others are made.
func TestRollMidFull(t *testing.T) {
	x := fresh(t)
	x.put(row(most-2, 0, mid, 1))
	x.want(most-2+21, api.OK)(x.roll(76200))
	x.drop(api.Raw, every)
	x.want(6, api.OK)(x.put(points(76200, 76900, 77399, 77400, 78000, 79201)))
	c := x.copy()
	x.want(2, api.ErrFull)(x.roll(77400))
	x.marks(77100, 75600)
	x.lens(6, most, 21)
	x.want(0, api.ErrState)(x.put(points(77099)))
	x.want(1, api.OK)(x.put(points(77100)))
	for _, now := range []int64{77400, maxTime / 1000, 77401} {
		x.want(0, api.ErrFull)(x.roll(now))
	}
	// No window is closed that would stop it.
	for _, now := range []int64{0, 77100, 77101, 77399} {
		x.want(0, api.OK)(x.roll(now))
	}
	// When there is room again it goes on.
	x.drop(api.Mid, at(0))
	x.want(1, api.OK)(x.roll(77400))
	checkList(t, "Mid", x.s.Aggs(api.Mid, api.Range{From: 77100, To: 77400}), []api.Agg{{At: 77100, Count: 2, Sum: 22, Min: 10, Max: 12}})
	x.want(0, api.ErrFull)(x.roll(77700))
	x.marks(77400, 75600)
	x.drop(api.Mid, at(300, 600, 900))
	x.want(3+2, api.OK)(x.roll(82800))
	x.marks(82800, 82800)
	x.lens(7, most, 23)
	// Windows without points ask for no room.
	x.want(0, api.OK)(x.roll(86400))
	x.marks(86400, 86400)
	// Far on at once it stops where it stops near.
	c.want(2, api.ErrFull)(c.s.Roll(maxTime))
	c.marks(77100, 75600)
}

// P16.1: an aggregate that doesn't go in stops behind windows without points, not ahead of these.
func TestRollFullGap(t *testing.T) {
	for room := range 4 {
		x := restored(t, points(500_400, 500_401, 510_000, 520_000, 520_001), aggs(most-room, 0, mid), nil, [3]int64{0, 480_000, 480_000 / long * long})
		e := api.ErrFull
		if room == 3 {
			e = api.OK
		}
		n, got := x.roll(540_000)
		marks := [4]int64{500_400, 510_000, 519_900, 540_000}
		longs := [4]int64{500_400, 507_600, 518_400, 540_000}
		x.marks(marks[room], longs[room])
		x.want(room+[4]int{0, 1, 2, 3}[room], e)(n, got)
	}
}

// P16.1: Long stops likewise, and Mid goes on.
func TestRollLongFull(t *testing.T) {
	x := fresh(t)
	x.put(row(most, 0, long, 1))
	x.want(2*most, api.OK)(x.roll(most * long)) // 921600
	x.marks(921600, 921600)
	x.lens(most, most, most)
	checkNumber(t, "Bytes", x.s.Bytes(), most*(16+40+40))
	x.drop(api.Raw, every)
	x.drop(api.Mid, every)
	x.want(3, api.OK)(x.put(points(925200, 925500, 932400)))
	x.want(3, api.ErrFull)(x.roll(936000))
	x.marks(936000, 925200)
	x.lens(3, 3, most)
	x.want(0, api.ErrFull)(x.roll(936000))
	x.want(0, api.ErrFull)(x.roll(928800))
	x.want(0, api.OK)(x.roll(928799))
	x.drop(api.Long, at(3600))
	x.want(0, api.OK)(x.roll(928799))
	x.marks(936000, 925200)
	x.want(1, api.OK)(x.roll(928800))
	x.marks(936000, 928800)
	x.want(0, api.ErrFull)(x.roll(936001))
	x.marks(936000, 932400)
	// What is gone from Mid meanwhile stops nothing.
	x.drop(api.Mid, at(932400))
	x.want(0, api.OK)(x.roll(936001))
	x.marks(936000, 936000)
}

// P16.1: both stop in one call, each ahead of its own window.
func TestRollBothFull(t *testing.T) {
	full := restored(t, points(921_600, 925_200, 928_800), aggs(most-1, 0, mid), aggs(most, 0, long), [3]int64{0, 921_600, 921_600})
	full.want(1, api.ErrFull)(full.roll(936_000))
	full.marks(925_200, 921_600)
	full.drop(api.Mid, at(0, 300))
	full.want(2, api.ErrFull)(full.roll(936_000))
	full.marks(936_000, 921_600)
	full.drop(api.Long, at(0, 3600, 7200, 10_800))
	full.want(3, api.OK)(full.roll(936_000))
	full.marks(936_000, 936_000)
}

// P16.1: windows without values make nothing, and marks pass them.
func TestRollGaps(t *testing.T) {
	for gap := int64(1); gap <= 40; gap++ {
		x := fresh(t)
		x.put([]api.Point{{At: 5, Value: 1}, {At: 5 + gap*mid, Value: 2}, {At: 5 + 2*gap*mid, Value: 3}})
		x.roll(gap * mid)
		x.roll(2 * gap * mid)
		x.roll((2*gap + 1) * mid)
		x.roll((2*gap + 13) * mid)
		x.lens(3, 3, x.s.Len(api.Long))
	}
}

// edges are ticks at and beside the edges of windows.
func edges() []int64 {
	return []int64{least, -3600, -300, -1, 0, 1, 2, 298, 299, 300, 301, 599, 600, 601, 3299, 3300, 3599, 3600, 3601, 3899, 3900, 3901, 7199, 7200, 7201, maxTime, maxTime + 1, greatest}
}

// some is a stock of all kinds: points that were rolled, and not, dropped ones, aggregates without points and Long ones without all of Mid.
func some(t *testing.T) *both {
	t.Helper()
	x := fresh(t)
	x.put([]api.Point{{At: 0, Value: 5}, {At: 299, Value: -2}, {At: 300, Value: 7}, {At: 599, Value: 1}, {At: 1000, Value: 6}, {At: 3300, Value: 9}, {At: 3599, Value: 3}, {At: 3600, Value: -8}, {At: 3901, Value: 4}, {At: 7200, Value: 2}})
	x.want(6+2, api.OK)(x.roll(7200))
	x.drop(api.Raw, at(599, 1000, 3300))
	x.drop(api.Mid, at(300))
	x.put([]api.Point{{At: 7199 + 2, Value: 1}, {At: 7600, Value: 11}})
	x.lens(9, 5, 2)
	return x
}

// P16.1: Points and Aggs of all ranges with ends at and beside windows' edges, those that aren't right among them.
func TestRanges(t *testing.T) {
	for _, x := range []*both{fresh(t), some(t), full(t)} {
		for _, from := range edges() {
			for _, to := range edges() {
				x.look(api.Range{From: from, To: to})
			}
		}
		x.check()
	}
}

// P16.1: a range meets a window by its first, or last tick, or not at all.
func TestAggsByOneTick(t *testing.T) {
	x := some(t)
	for _, c := range []struct {
		tier int
		r    api.Range
		want []int64
	}{
		{api.Mid, api.Range{From: 299, To: 300}, []int64{0}},
		{api.Mid, api.Range{From: 300, To: 900}, nil},
		{api.Mid, api.Range{From: 299, To: 901}, []int64{0, 900}},
		{api.Mid, api.Range{From: 1199, To: 3300}, []int64{900}},
		{api.Mid, api.Range{From: 1200, To: 3301}, []int64{3300}},
		{api.Mid, api.Range{From: 0, To: 0}, nil},
		{api.Mid, api.Range{From: 100, To: 100}, nil},
		{api.Mid, api.Range{From: 100, To: 99}, nil},
		{api.Mid, api.Range{From: -5, To: 0}, nil},
		{api.Mid, api.Range{From: -5, To: 1}, []int64{0}},
		{api.Long, api.Range{From: 0, To: 1}, []int64{0}},
		{api.Long, api.Range{From: 3599, To: 3600}, []int64{0}},
		{api.Long, api.Range{From: 3599, To: 3601}, []int64{0, 3600}},
		{api.Long, api.Range{From: 3600, To: 3601}, []int64{3600}},
		{api.Long, api.Range{From: 7199, To: greatest}, []int64{3600}},
		{api.Long, api.Range{From: 7200, To: greatest}, nil},
		{api.Long, api.Range{From: 3700, To: 3600}, nil},
		{api.Raw, whole, nil},
	} {
		var got []int64
		for _, a := range x.s.Aggs(c.tier, c.r) {
			got = append(got, a.At)
		}
		checkList(t, "Aggs", got, c.want)
	}
	checkList(t, "Points", x.s.Points(api.Range{From: 299, To: 3600}), []api.Point{{At: 299, Value: -2}, {At: 300, Value: 7}, {At: 3599, Value: 3}})
	checkList(t, "Points", x.s.Points(api.Range{From: 3600, To: 299}), nil)
}

// P16.1: of another tier there is nothing.
func TestNoTier(t *testing.T) {
	for _, x := range []*both{fresh(t), some(t)} {
		for _, i := range noTiers() {
			checkList(t, "Aggs", x.s.Aggs(i, wide), nil)
			checkNumber(t, "Mark", x.s.Mark(i), 0)
			checkNumber(t, "Len", x.s.Len(i), 0)
			n := x.s.Drop(i, func(api.Range) bool {
				t.Fatalf("Drop(%d) tells of something", i)
				return true
			})
			checkNumber(t, "Drop", n, 0)
			x.check()
		}
	}
}

// P16.1: the first point goes, the second one stays.
func TestPurgePart(t *testing.T) {
	x := fresh(t)
	x.put([]api.Point{{At: 10, Value: 4}, {At: 20, Value: 9}, {At: 310, Value: -1}, {At: 3610, Value: 6}})
	x.roll(7200)
	checkNumber(t, "Purge", x.purge(api.Range{From: 10, To: 20}), 1)
	checkList(t, "Points", x.s.Points(whole), []api.Point{{At: 20, Value: 9}, {At: 310, Value: -1}, {At: 3610, Value: 6}})
	checkList(t, "Mid", x.s.Aggs(api.Mid, whole), []api.Agg{{At: 0, Count: 1, Sum: 9, Min: 9, Max: 9}, {At: 300, Count: 1, Sum: -1, Min: -1, Max: -1}, {At: 3600, Count: 1, Sum: 6, Min: 6, Max: 6}})
	checkList(t, "Long", x.s.Aggs(api.Long, whole), []api.Agg{{At: 0, Count: 2, Sum: 8, Min: -1, Max: 9}, {At: 3600, Count: 1, Sum: 6, Min: 6, Max: 6}})
	checkNumber(t, "Purge", x.purge(api.Range{From: 20, To: 21}), 1)
	checkList(t, "Long", x.s.Aggs(api.Long, api.Range{To: 1}), []api.Agg{{At: 0, Count: 1, Sum: -1, Min: -1, Max: -1}})
	x.lens(2, 2, 2)
	checkNumber(t, "Purge", x.purge(api.Range{From: 0, To: 3600}), 1)
	x.lens(1, 1, 1)
	x.marks(7200, 7200)
	checkNumber(t, "Purge", x.purge(whole), 1)
	x.lens(0, 0, 0)
	x.marks(7200, 7200)
	x.want(0, api.ErrState)(x.put(points(7199)))
	x.want(0, api.OK)(x.roll(7200))
}

// P16.1: all ranges with ends at and beside windows' edges; of those that aren't right none does anything.
func TestPurgeRanges(t *testing.T) {
	base := some(t)
	for _, from := range edges() {
		for _, to := range edges() {
			x := base.copy()
			r := api.Range{From: from, To: to}
			was := x.s.Bytes()
			n := x.purge(r)
			if from < 0 || from >= to || to > maxTime+1 {
				checkNumber(t, "Purge", n, 0)
				checkNumber(t, "Bytes", x.s.Bytes(), was)
				checkSame(t, x.s, base.s)
			}
			checkNumber(t, "points in it", len(x.s.Points(r)), len(base.s.Points(r))-n)
			x.marks(7200, 7200)
			checkNumber(t, "Purge again", x.purge(r), 0)
		}
	}
	base.check()
}

// P16.1: aggregates whose points are gone already go, too, be there points in the range or not.
func TestPurgeAggsAlone(t *testing.T) {
	x := some(t)
	checkNumber(t, "Purge", x.purge(api.Range{From: 950, To: 951}), 0)
	checkList(t, "Mid", x.s.Aggs(api.Mid, api.Range{From: 900, To: 1200}), nil)
	// Of Long's first one the Mid aggregates at 0 and 3300 are left; that at 300 was dropped.
	checkList(t, "Long", x.s.Aggs(api.Long, api.Range{To: 1}), []api.Agg{{At: 0, Count: 4, Sum: 5 - 2 + 9 + 3, Min: -2, Max: 9}})
	// Of 3300's points one is left.
	checkNumber(t, "Purge", x.purge(api.Range{From: 3301, To: 3302}), 0)
	checkList(t, "Mid", x.s.Aggs(api.Mid, api.Range{From: 3300, To: 3600}), []api.Agg{{At: 3300, Count: 1, Sum: 3, Min: 3, Max: 3}})
	checkList(t, "Long", x.s.Aggs(api.Long, api.Range{To: 1}), []api.Agg{{At: 0, Count: 3, Sum: 6, Min: -2, Max: 5}})
	// Without any Mid aggregate a Long one goes, though points are left.
	x.drop(api.Mid, func(r api.Range) bool { return r.From < long })
	checkNumber(t, "Purge", x.purge(api.Range{From: 2000, To: 2001}), 0)
	checkList(t, "Long", x.s.Aggs(api.Long, whole), []api.Agg{{At: 3600, Count: 2, Sum: -4, Min: -8, Max: 4}})
	checkNumber(t, "points", len(x.s.Points(api.Range{To: long})), 4)
}

// P16.1: a Mid aggregate whose points are gone goes only with a range that meets its window.
func TestPurgeBeside(t *testing.T) {
	for _, r := range []api.Range{{From: 0, To: 600}, {From: 899, To: 900}, {From: 1200, To: 1201}, {From: 1200, To: maxTime + 1}, {From: 900, To: 900}, {From: 1200, To: 900}} {
		x := some(t)
		x.purge(r)
		checkList(t, "Mid", x.s.Aggs(api.Mid, api.Range{From: 900, To: 1200}), []api.Agg{{At: 900, Count: 1, Sum: 6, Min: 6, Max: 6}})
	}
	for _, r := range []api.Range{{From: 0, To: 901}, {From: 1199, To: 1200}, {From: 900, To: 901}, {From: 1000, To: 1001}, {From: 900, To: 1200}} {
		x := some(t)
		x.purge(r)
		checkList(t, "Mid", x.s.Aggs(api.Mid, api.Range{From: 900, To: 1200}), nil)
	}
}

// P16.1: points that aren't rolled go, and are rolled no more.
func TestPurgeNotRolled(t *testing.T) {
	x := fresh(t)
	x.put(points(10, 20, 310, 3610))
	x.roll(300)
	checkNumber(t, "Purge", x.purge(api.Range{From: 15, To: 400}), 2)
	x.want(1+1, api.OK)(x.roll(3900))
	checkList(t, "Mid", x.s.Aggs(api.Mid, whole), []api.Agg{{At: 0, Count: 1, Sum: 10, Min: 10, Max: 10}, {At: 3600, Count: 1, Sum: 13, Min: 13, Max: 13}})
	checkList(t, "Long", x.s.Aggs(api.Long, whole), []api.Agg{{At: 0, Count: 1, Sum: 10, Min: 10, Max: 10}})
	x.want(1, api.OK)(x.put(points(3950)))
	checkNumber(t, "Purge", x.purge(api.Range{From: 3900, To: maxTime + 1}), 1)
	x.want(1, api.OK)(x.put(points(3950)))
}

// P16.1: at the last tick of all.
func TestPurgeLast(t *testing.T) {
	x := fresh(t)
	x.put(points(maxTime-1, maxTime))
	checkNumber(t, "Purge", x.purge(api.Range{From: maxTime, To: maxTime + 2}), 0)
	checkNumber(t, "Purge", x.purge(api.Range{From: maxTime, To: maxTime}), 0)
	checkNumber(t, "Purge", x.purge(api.Range{From: maxTime, To: maxTime + 1}), 1)
	checkNumber(t, "Purge", x.purge(api.Range{From: maxTime - 1, To: maxTime}), 1)
}

// P16.1: a full stock loses all of it.
func TestPurgeFull(t *testing.T) {
	x := fresh(t)
	x.put(row(most, 0, long, 1))
	x.roll(most * long)
	checkNumber(t, "Purge", x.purge(api.Range{From: long, To: maxTime + 1}), most-1)
	x.lens(1, 1, 1)
	checkNumber(t, "Bytes", x.s.Bytes(), 16+40+40)
	checkNumber(t, "Purge", x.purge(api.Range{From: 0, To: 1}), 1)
	x.lens(0, 0, 0)
}

// P16.1: what Drop tells of: of Raw ranges of one tick, else whole windows, one by one, rising.
func TestDropTells(t *testing.T) {
	x := some(t)
	for i, want := range [][]api.Range{
		{{From: 0, To: 1}, {From: 299, To: 300}, {From: 300, To: 301}, {From: 3599, To: 3600}, {From: 3600, To: 3601}, {From: 3901, To: 3902}, {From: 7200, To: 7201}, {From: 7201, To: 7202}, {From: 7600, To: 7601}},
		{{From: 0, To: 300}, {From: 900, To: 1200}, {From: 3300, To: 3600}, {From: 3600, To: 3900}, {From: 3900, To: 4200}},
		{{From: 0, To: 3600}, {From: 3600, To: 7200}},
	} {
		var told []api.Range
		n := x.s.Drop(i, func(r api.Range) bool {
			told = append(told, r)
			return false
		})
		checkNumber(t, "Drop", n, 0)
		checkList(t, "told", told, want)
		checkNumber(t, "Drop", x.drop(i, none), 0)
	}
	last := restored(t, points(maxTime), []api.Agg{{At: lastMid, Count: 1}, {At: 1099511631000, Count: 1}}, []api.Agg{{At: lastLong, Count: 1}}, [3]int64{0, 1099511631300, 1099511629200})
	checkNumber(t, "Drop", last.drop(api.Mid, func(r api.Range) bool { return r.To == lastMid+300 }), 1)
	checkNumber(t, "Drop", last.drop(api.Raw, func(r api.Range) bool { return r == (api.Range{From: maxTime, To: maxTime + 1}) }), 1)
	checkNumber(t, "Drop", last.drop(api.Long, func(r api.Range) bool { return r.To == 1099511629200 }), 1)
	last.lens(0, 1, 0)
}

// P16.1: each set of what there is goes, of each tier, and nothing else.
func TestDropSets(t *testing.T) {
	base := some(t)
	for i := range 3 {
		n := base.s.Len(i)
		for set := range 1 << n {
			x := base.copy()
			place, want := 0, 0
			got := x.drop(i, func(api.Range) bool {
				place++
				return set>>((place-1)%n)&1 == 1
			})
			for bit := range n {
				want += set >> bit & 1
			}
			checkNumber(t, "Drop", got, want)
			checkNumber(t, "Len", x.s.Len(i), n-want)
			x.marks(7200, 7200)
		}
	}
	base.check()
}

// P16.1: what is dropped of one tier changes nothing of the others, and is rolled no more.
func TestDropThenRoll(t *testing.T) {
	x := fresh(t)
	x.put(points(10, 310, 3700))
	x.want(2, api.OK)(x.roll(600))
	checkNumber(t, "Drop", x.drop(api.Mid, at(0)), 1)
	checkNumber(t, "Drop", x.drop(api.Raw, at(310)), 1)
	x.want(1, api.OK)(x.roll(3600))
	checkList(t, "Long", x.s.Aggs(api.Long, whole), []api.Agg{{At: 0, Count: 1, Sum: 11, Min: 11, Max: 11}})
	checkNumber(t, "Drop", x.drop(api.Raw, at(3700)), 1)
	x.want(0, api.OK)(x.roll(7200))
	x.marks(7200, 7200)
	checkNumber(t, "Drop", x.drop(api.Long, every), 1)
	x.want(0, api.OK)(x.roll(7200))
	x.lens(1, 1, 0)
}

// P16.1: while Drop asks, all is still there.
func TestDropAsks(t *testing.T) {
	for i := range 3 {
		x := some(t)
		n := x.s.Len(i)
		got := x.s.Drop(i, func(api.Range) bool {
			x.check()
			return true
		})
		checkNumber(t, "Drop", got, n)
		x.b.drop(i, every)
		x.check()
	}
}

// P16.1: 16 bytes for each point, 40 for each aggregate.
func TestBytes(t *testing.T) {
	x := some(t)
	checkNumber(t, "Bytes", x.s.Bytes(), 9*16+7*40)
	x.drop(api.Raw, every)
	checkNumber(t, "Bytes", x.s.Bytes(), 7*40)
	x.drop(api.Long, at(0))
	checkNumber(t, "Bytes", x.s.Bytes(), 6*40)
	x.drop(api.Mid, every)
	checkNumber(t, "Bytes", x.s.Bytes(), 40)
	x.drop(api.Long, every)
	checkNumber(t, "Bytes", x.s.Bytes(), 0)
}

// P16.1: a copy, and what it was made of, go on by themselves.
func TestCopy(t *testing.T) {
	for _, change := range []func(x *both){
		func(x *both) { x.put(points(7300, 7600)) },
		func(x *both) { x.roll(10_800) },
		func(x *both) { x.purge(api.Range{From: 250, To: 3602}) },
		func(x *both) { x.purge(whole) },
		func(x *both) { x.drop(api.Raw, at(0, 300)) },
		func(x *both) { x.drop(api.Mid, at(0, 3600)) },
		func(x *both) { x.drop(api.Long, at(0)) },
	} {
		x := some(t)
		c := x.copy()
		checkSame(t, x.s, c.s)
		change(x)
		c.check()
		change(c)
		x.check()
		checkSame(t, x.s, c.s)
		c.put(points(20_000))
		x.check()
		x.put(points(20_001))
		x.roll(21_600)
		c.check()
		c.roll(21_600)
		x.check()
	}
	fresh(t).copy().put(points(1))
}

// P16.1: two copies of one stock share no room behind its lists.
func TestCopyRoom(t *testing.T) {
	x := some(t)
	a, b := x.copy(), x.copy()
	a.put(points(7500))
	b.put(points(7800))
	a.roll(10_800)
	b.roll(10_800)
	x.put(points(10_000))
	x.roll(14_400)
	a.check()
	b.check()
	x.check()
}

// P16.1: every call on a nil stock.
func TestNil(t *testing.T) {
	var s *tier.Stock
	gone := func(api.Range) bool {
		t.Fatal("Drop of a nil stock tells of something")
		return true
	}
	for range 2 {
		for _, l := range [][]api.Point{nil, points(1), points(-1), points(maxTime + 1), row(most+1, 0, 1, 0)} {
			if n, e := s.Put(l); n != 0 || e != api.ErrArg {
				t.Fatalf("Put: %d, %d", n, int(e))
			}
			checkNumber(t, "Free", s.Free(l), 0)
		}
		for _, now := range []int64{0, 300, maxTime, -1, maxTime + 1, least, greatest} {
			if n, e := s.Roll(now); n != 0 || e != api.ErrArg {
				t.Fatalf("Roll(%d): %d, %d", now, n, int(e))
			}
		}
		for _, r := range []api.Range{{}, whole, wide, {From: 5, To: 1}} {
			checkList(t, "Points", s.Points(r), nil)
			checkNumber(t, "Purge", s.Purge(r), 0)
			for _, i := range append(noTiers(), 0, 1, 2) {
				checkList(t, "Aggs", s.Aggs(i, r), nil)
				checkNumber(t, "Drop", s.Drop(i, gone), 0)
				checkNumber(t, "Mark", s.Mark(i), 0)
				checkNumber(t, "Len", s.Len(i), 0)
			}
		}
		checkNumber(t, "Bytes", s.Bytes(), 0)
		if s.Copy() != nil {
			t.Fatal("Copy of a nil stock")
		}
	}
}

// P16.1: numbers of tiers at the ends of int, with a stock that has all of it.
func TestTierEnds(t *testing.T) {
	x := some(t)
	for _, i := range []int{math.MinInt, math.MaxInt} {
		checkNumber(t, "Drop", x.s.Drop(i, every), 0)
	}
	x.check()
}
