package tier_test

import (
	"slices"
	"testing"

	"catacomb/api"
	"catacomb/tier"
)

// The greatest marks that there are, up to MaxTime and 3600.
const (
	topMid  = 1099511631300
	topLong = 1099511629200
)

// parts is what Restore is handed in.
type parts struct {
	points      []api.Point
	mids, longs []api.Agg
	marks       [3]int64
}

// usual is what a stock may have.
func usual() parts {
	return parts{
		points: points(5, 310, 3599, 7300),
		mids:   []api.Agg{{At: 0, Count: 1, Sum: 10, Min: 10, Max: 10}, {At: 300, Count: 2, Sum: 21, Min: 10, Max: 11}, {At: 3300, Count: 1, Sum: 12, Min: 12, Max: 12}},
		longs:  []api.Agg{{At: 0, Count: 4, Sum: 43, Min: 10, Max: 12}, {At: 3600, Count: 1, Sum: 1, Min: 1, Max: 1}},
		marks:  [3]int64{0, 7500, 7200},
	}
}

func (p parts) copy() parts {
	return parts{slices.Clone(p.points), slices.Clone(p.mids), slices.Clone(p.longs), p.marks}
}

// checkRestore holds what comes of parts: a stock that tells them, or nothing and ErrForm.
func checkRestore(t *testing.T, what string, p parts, ok bool) {
	t.Helper()
	if ok {
		restored(t, p.points, p.mids, p.longs, p.marks)
		return
	}
	if s, e := tier.Restore(p.points, p.mids, p.longs, p.marks); s != nil || e != api.ErrForm {
		t.Fatalf("Restore, %s: %v, %d, want nothing, %d", what, s, int(e), int(api.ErrForm))
	}
}

// checkChanged holds what comes of the usual parts, one thing of them changed.
func checkChanged(t *testing.T, what string, ok bool, change func(p *parts)) {
	t.Helper()
	p := usual()
	change(&p)
	checkRestore(t, what, p, ok)
}

// P16.2: of nothing comes what New makes.
func TestRestoreNothing(t *testing.T) {
	x := restored(t, nil, nil, nil, [3]int64{})
	checkSame(t, x.s, tier.New())
	x.put(points(5))
	x.roll(3600)
	y := restored(t, []api.Point{}, []api.Agg{}, make([]api.Agg, 0, 3), [3]int64{})
	y.check()
	y.put(points(0, maxTime))
}

// P16.2: a stock has what is handed in, and goes on with it.
func TestRestoreUsual(t *testing.T) {
	p := usual()
	x := restored(t, p.points, p.mids, p.longs, p.marks)
	checkList(t, "Points", x.s.Points(whole), p.points)
	checkList(t, "Mid", x.s.Aggs(api.Mid, whole), p.mids)
	checkList(t, "Long", x.s.Aggs(api.Long, whole), p.longs)
	x.marks(7500, 7200)
	x.want(0, api.ErrState)(x.put(points(7499)))
	x.want(1, api.OK)(x.put(points(7500)))
	// The point at 7300 is below the mark, and isn't rolled any more.
	x.want(2, api.OK)(x.roll(10_800))
	checkList(t, "Long", x.s.Aggs(api.Long, api.Range{From: 7200, To: 10_800}), []api.Agg{{At: 7200, Count: 1, Sum: 10, Min: 10, Max: 10}})
	x.purge(api.Range{From: 0, To: 300})
}

// P16.2: points have to rise, to be within 0 to MaxTime, and at most 256.
func TestRestorePoints(t *testing.T) {
	for _, c := range []struct {
		what  string
		l     []api.Point
		right bool
	}{
		{"none", nil, true},
		{"one", points(5), true},
		{"the first tick", points(0), true},
		{"the last tick", points(5, maxTime), true},
		{"both", points(0, maxTime), true},
		{"as many as may be", row(most, 0, 1, 0), true},
		{"as many as may be, at the end", row(most, maxTime-most+1, 1, 0), true},
		{"one too many", row(most+1, 0, 1, 0), false},
		{"far too many", row(5000, 0, 1, 0), false},
		{"256 ticks, one of them twice", append(row(most, 0, 1, 0), api.Point{At: most - 1, Value: most - 1}), false},
		{"one below 0", points(-1), false},
		{"one below 0, ahead", points(-1, 5), false},
		{"one above MaxTime", points(maxTime + 1), false},
		{"one above MaxTime, behind", points(5, maxTime+1), false},
		{"the least number", points(least, 5), false},
		{"the greatest number", points(5, greatest), false},
		{"twice the same", []api.Point{{At: 5, Value: 1}, {At: 5, Value: 1}}, false},
		{"a tick twice", points(5, 5), false},
		{"a tick twice amid", points(1, 5, 5, 9), false},
		{"a tick twice at the end", points(1, 5, 9, 9), false},
		{"falling", points(9, 5), false},
		{"falling ahead", points(9, 5, 10), false},
		{"falling amid", points(1, 9, 5, 10), false},
		{"falling at the end", points(1, 5, 9, 8), false},
		{"the first one again", points(1, 5, 9, 1), false},
	} {
		checkChanged(t, "points: "+c.what, c.right, func(p *parts) { p.points = c.l })
		checkRestore(t, "points alone: "+c.what, parts{points: c.l}, c.right)
	}
}

// P16.2: points may lie below, at and above the marks.
func TestRestorePointsAtMarks(t *testing.T) {
	for _, tick := range []int64{0, 299, 300, 7199, 7200, 7499, 7500, 7501, maxTime} {
		checkChanged(t, "a point beside marks", true, func(p *parts) { p.points = points(tick) })
	}
}

// aggPlace is one of the two tiers' aggregates, as parts.
type aggPlace struct {
	tier int
	list func(p *parts) *[]api.Agg
}

func aggPlaces() []aggPlace {
	return []aggPlace{
		{1, func(p *parts) *[]api.Agg { return &p.mids }},
		{2, func(p *parts) *[]api.Agg { return &p.longs }},
	}
}

// P16.2: aggregates have to be right, each by itself.
func TestRestoreAggRight(t *testing.T) {
	for _, c := range []struct {
		a     api.Agg
		right bool
	}{
		{api.Agg{Count: 1}, true},
		{api.Agg{Count: 0}, false},
		{api.Agg{Count: -1}, false},
		{api.Agg{Count: least}, false},
		{api.Agg{Count: greatest, Sum: greatest, Min: least, Max: greatest}, true},
		{api.Agg{Count: 1, Sum: least, Min: least, Max: least}, true},
		{api.Agg{Count: 1, Sum: 9, Min: 3, Max: 3}, true},
		{api.Agg{Count: 2, Min: 4, Max: 3}, false},
		{api.Agg{Count: 2, Min: greatest, Max: least}, false},
		{api.Agg{Count: 2, Min: 0, Max: -1}, false},
		{api.Agg{}, false},
	} {
		for _, place := range aggPlaces() {
			for i := range *place.list(new(usual())) {
				checkChanged(t, "an aggregate", c.right, func(p *parts) {
					l := *place.list(p)
					c.a.At = l[i].At
					l[i] = c.a
				})
			}
		}
	}
}

// P16.2: aggregates have to begin windows of their own tier, below its mark.
func TestRestoreAggBegins(t *testing.T) {
	marks := [3]int64{0, 7500, 7200}
	for at := int64(-7300); at <= 7900; at++ {
		for _, place := range aggPlaces() {
			p := parts{marks: marks}
			*place.list(&p) = []api.Agg{{At: at, Count: 1}}
			checkRestore(t, "one at a tick", p, at >= 0 && at%widths[place.tier] == 0 && at < marks[place.tier])
		}
	}
	for _, at := range []int64{least, least + 8, -maxTime, -3600, -300, 1 << 40, greatest, greatest - 7, topMid, topLong, topMid + 300, topLong + 3600} {
		for _, place := range aggPlaces() {
			p := parts{marks: marks}
			*place.list(&p) = []api.Agg{{At: at, Count: 1}}
			checkRestore(t, "one outside", p, false)
			p.marks = [3]int64{0, topMid, topLong}
			*place.list(&p) = []api.Agg{{At: 0, Count: 1}, {At: at, Count: 1}}
			checkRestore(t, "one outside, behind", p, at > 0 && at%widths[place.tier] == 0 && at < p.marks[place.tier])
		}
	}
	// Long's mark isn't Mid's.
	checkChanged(t, "a Long one at Long's mark", false, func(p *parts) { p.longs[1].At = 7200 })
	checkChanged(t, "a Mid one above Long's mark", true, func(p *parts) { p.mids[2].At = 7200 })
	checkChanged(t, "a Mid one at Mid's mark", false, func(p *parts) { p.mids[2].At = 7500 })
	checkChanged(t, "a Mid one at 0 and the mark 0", false, func(p *parts) { p.mids, p.longs, p.marks = p.mids[:1], nil, [3]int64{} })
	checkChanged(t, "a Long one at 0 and the mark 0", false, func(p *parts) { p.longs, p.marks[2] = p.longs[:1], 0 })
}

// P16.2: aggregates have to rise.
func TestRestoreAggOrder(t *testing.T) {
	for _, place := range aggPlaces() {
		width := widths[place.tier]
		list := func(starts ...int64) parts {
			p := parts{marks: [3]int64{0, 36_000, 36_000}}
			for i, at := range starts {
				*place.list(&p) = append(*place.list(&p), api.Agg{At: at * width, Count: int64(i) + 1})
			}
			return p
		}
		checkRestore(t, "rising", list(0, 1, 2, 9), true)
		checkRestore(t, "one", list(9), true)
		checkRestore(t, "twice", list(0, 0), false)
		checkRestore(t, "twice ahead", list(1, 1, 2), false)
		checkRestore(t, "twice at the end", list(0, 2, 2), false)
		checkRestore(t, "falling", list(1, 0), false)
		checkRestore(t, "falling ahead", list(2, 1, 3), false)
		checkRestore(t, "falling amid", list(0, 3, 2, 4), false)
		checkRestore(t, "falling at the end", list(0, 3, 4, 2), false)
		same := list(1, 1)
		(*place.list(&same))[1] = (*place.list(&same))[0]
		checkRestore(t, "the same one twice", same, false)
	}
}

// P16.2: aggregates are at most 256 of each tier.
func TestRestoreAggMost(t *testing.T) {
	for _, place := range aggPlaces() {
		for _, n := range []int{most - 1, most, most + 1, most + 2, 2 * most} {
			p := parts{marks: [3]int64{0, 3600 * 1000, 3600 * 1000}}
			*place.list(&p) = aggs(n, 0, widths[place.tier])
			checkRestore(t, "many", p, n <= most)
		}
	}
	all := parts{row(most, 0, 1, 0), aggs(most, 0, mid), aggs(most, 0, long), [3]int64{0, most * long, most * long}}
	checkRestore(t, "as much as may be", all, true)
}

// P16.2: marks have to be multiples of the width, and Long's at most Mid's.
func TestRestoreMarks(t *testing.T) {
	for mids := int64(-600); mids <= 8100; mids += 50 {
		for longs := int64(-3600); longs <= 8100; longs += 300 {
			right := mids >= 0 && longs >= 0 && mids%mid == 0 && longs%long == 0 && longs <= mids
			checkRestore(t, "marks", parts{marks: [3]int64{0, mids, longs}}, right)
		}
	}
	for beside := int64(1); beside < long; beside++ {
		checkRestore(t, "Long's mark beside", parts{marks: [3]int64{0, 7200, beside}}, false)
		checkRestore(t, "Mid's mark beside", parts{marks: [3]int64{0, 7200 + beside, 0}}, beside%mid == 0)
	}
}

// P16.2: marks are up to MaxTime and 3600, where there is no multiple.
func TestRestoreMarksEnds(t *testing.T) {
	for _, c := range []struct {
		marks [3]int64
		right bool
	}{
		{[3]int64{0, lastMid, lastLong}, true},
		{[3]int64{0, lastMid + 300, lastLong}, true},
		{[3]int64{0, lastMid + 300, lastLong + 3600}, false},
		{[3]int64{0, topMid - 300, topLong}, true},
		{[3]int64{0, topMid, topLong}, true},
		{[3]int64{0, topMid, 0}, true},
		{[3]int64{0, topMid + 300, topLong}, false},
		{[3]int64{0, topMid + 300, 0}, false},
		{[3]int64{0, topMid + 3000, topLong + 3600}, false},
		{[3]int64{0, topMid + 3600, topLong + 3600}, false},
		{[3]int64{0, topMid, topLong + 3600}, false},
		{[3]int64{0, maxTime, 0}, false},
		{[3]int64{0, maxTime + 3600, 0}, false},
		{[3]int64{0, 2 * maxTime / 3600 * 3600, 0}, false},
		{[3]int64{0, greatest, 0}, false},
		{[3]int64{0, greatest / 3600 * 3600, 0}, false},
		{[3]int64{0, greatest / 3600 * 3600, greatest / 3600 * 3600}, false},
		{[3]int64{0, least, 0}, false},
		{[3]int64{0, least / 3600 * 3600, 0}, false},
		{[3]int64{0, 0, least / 3600 * 3600}, false},
		{[3]int64{0, 0, -3600}, false},
		{[3]int64{0, -300, -3600}, false},
		{[3]int64{0, -300, 0}, false},
		{[3]int64{0, 7200, greatest / 3600 * 3600}, false},
		{[3]int64{1, 300, 0}, false},
		{[3]int64{-1, 300, 0}, false},
		{[3]int64{300, 300, 0}, false},
		{[3]int64{3600, 3600, 3600}, false},
		{[3]int64{greatest, 0, 0}, false},
		{[3]int64{least, 0, 0}, false},
	} {
		checkRestore(t, "marks at ends", parts{marks: c.marks}, c.right)
		checkRestore(t, "marks at ends, with a point", parts{points: points(5), marks: c.marks}, c.right)
	}
}

// P16.2: with marks above MaxTime nothing may be put, nor rolled, any more.
func TestRestoreTop(t *testing.T) {
	x := restored(t, points(0, maxTime), []api.Agg{{At: topMid - 300, Count: 1}}, []api.Agg{{At: topLong - 3600, Count: 2, Max: 5}}, [3]int64{0, topMid, topLong})
	x.want(0, api.ErrState)(x.put(points(maxTime)))
	x.want(0, api.ErrRange)(x.put(points(topMid)))
	x.want(0, api.OK)(x.roll(maxTime))
	x.marks(topMid, topLong)
	checkNumber(t, "Aggs", len(x.s.Aggs(api.Mid, api.Range{From: topMid - 1, To: topMid})), 1)
	checkNumber(t, "Aggs", len(x.s.Aggs(api.Mid, api.Range{From: topMid, To: greatest})), 0)
	// The Mid aggregate's window has no tick of a range that is right; the Long one's has.
	checkNumber(t, "Purge", x.purge(whole), 2)
	x.lens(0, 1, 0)
}

// P16.2: one wrong thing among right ones, and several wrong ones.
func TestRestoreSeveral(t *testing.T) {
	wrongs := []func(p *parts){
		func(p *parts) { p.points[1].At = p.points[0].At },
		func(p *parts) { p.mids[1].Count = 0 },
		func(p *parts) { p.longs[1].At++ },
		func(p *parts) { p.marks[0] = 1 },
		func(p *parts) { p.marks[1]++ },
		func(p *parts) { p.marks[2] -= 3600 },
	}
	for set := range 1 << len(wrongs) {
		checkChanged(t, "several", set == 0, func(p *parts) {
			for i, wrong := range wrongs {
				if set>>i&1 == 1 {
					wrong(p)
				}
			}
		})
	}
}

// P16.2: what a stock tells makes another one, that goes on as it.
func TestRestoreTold(t *testing.T) {
	for _, x := range []*both{fresh(t), some(t), full(t)} {
		c := &both{t: t, s: again(t, x.s), b: x.b.copy()}
		for _, y := range []*both{x, c} {
			y.check()
			y.put(points(7600, 7700))
			y.roll(10_800)
			y.purge(api.Range{From: 100, To: 3400})
			y.drop(api.Raw, at(7600))
			y.roll(14_400)
		}
		checkSame(t, x.s, c.s)
	}
}
