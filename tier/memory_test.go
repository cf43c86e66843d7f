package tier_test

import (
	"slices"
	"testing"

	"catacomb/api"
	"catacomb/tier"
)

// roomy is a list with spare room behind it, filled with a mark.
func roomy[T any](l []T, mark T) (list, room []T) {
	all := append(slices.Clone(l), mark, mark, mark)
	return all[:len(l)], all
}

// scribble writes over a list, and over its spare room, and adds to it.
func scribble[T any](l []T, mark T) {
	l = l[:cap(l)]
	for i := range l {
		l[i] = mark
	}
	_ = append(l[:len(l)/2], mark, mark)
}

// stray is a point, and an aggregate, that nobody put.
var (
	stray    = api.Point{At: 123_456, Value: 654_321}
	strayAgg = api.Agg{At: 123_000, Count: 99, Sum: 98, Min: 97, Max: 96}
)

// P16.3: what is put isn't changed, nor its spare room, and isn't kept.
func TestPutMemory(t *testing.T) {
	for _, l := range [][]api.Point{points(9, 3, 3, 700), points(3, 5), points(-1, 5), points(maxTime + 1), row(most+1, 0, 1, 0), nil} {
		x := fresh(t)
		list, room := roomy(l, stray)
		was := slices.Clone(room)
		n, e := x.s.Put(list)
		want, wantE := x.b.put(l)
		x.act("Put", n, e, want, wantE)
		x.s.Free(list)
		checkList(t, "what was put", room, was)
		scribble(room, stray)
		x.check()
		x.roll(300)
		scribble(room, strayTwo())
		x.roll(3600)
		x.put(points(4000))
	}
}

// strayTwo is another one.
func strayTwo() api.Point { return api.Point{At: 7, Value: -7} }

// P16.3: what Restore is handed in isn't changed, nor its spare room, and isn't kept.
func TestRestoreMemory(t *testing.T) {
	p := usual()
	points, pointRoom := roomy(p.points, stray)
	mids, midRoom := roomy(p.mids, strayAgg)
	longs, longRoom := roomy(p.longs, strayAgg)
	wasPoints, wasMids, wasLongs := slices.Clone(pointRoom), slices.Clone(midRoom), slices.Clone(longRoom)
	s, _ := tier.Restore(points, mids, longs, p.marks)
	other, _ := tier.Restore(points, mids, longs, p.marks)
	x := &both{t: t, s: s, b: tableOf(p.points, p.mids, p.longs, p.marks)}
	// Each act that adds, takes away, or writes anew.
	x.put(row(3, 7500, 1, 0))
	x.roll(10_800)
	x.purge(api.Range{From: 310, To: 311})
	x.drop(api.Raw, at(5))
	x.drop(api.Mid, at(0))
	x.drop(api.Long, at(0))
	checkList(t, "points", pointRoom, wasPoints)
	checkList(t, "Mid", midRoom, wasMids)
	checkList(t, "Long", longRoom, wasLongs)
	scribble(pointRoom, stray)
	scribble(midRoom, strayAgg)
	scribble(longRoom, strayAgg)
	x.check()
	y := &both{t: t, s: other, b: tableOf(p.points, p.mids, p.longs, p.marks)}
	y.check()
	y.roll(10_800)
}

// P16.3: what a refused Restore was handed in isn't changed.
func TestRestoreRefusedMemory(t *testing.T) {
	for _, wrong := range []func(p *parts){
		func(p *parts) { p.points[0].At = 9999 },
		func(p *parts) { p.mids[2].At = 0 },
		func(p *parts) { p.longs[1].Count = 0 },
		func(p *parts) { p.marks[1] = 1 },
	} {
		p := usual()
		wrong(&p)
		was := p.copy()
		checkRestore(t, "wrong", p, false)
		checkList(t, "points", p.points, was.points)
		checkList(t, "Mid", p.mids, was.mids)
		checkList(t, "Long", p.longs, was.longs)
	}
}

// P16.3: what is told may be changed, and added to, and is a list of its own each time.
func TestAnswersMemory(t *testing.T) {
	for _, r := range []api.Range{whole, wide, {From: 0, To: 400}, {From: 3599, To: 3601}, {From: 7000, To: 7001}, {}} {
		x := some(t)
		for range 2 {
			l, keep := x.s.Points(r), x.s.Points(r)
			was := slices.Clone(keep)
			scribble(l, stray)
			checkList(t, "Points, told ahead", keep, was)
			for i := range 3 {
				l, keep := x.s.Aggs(i, r), x.s.Aggs(i, r)
				was := slices.Clone(keep)
				scribble(l, strayAgg)
				checkList(t, "Aggs, told ahead", keep, was)
			}
			x.check()
			x.put(points(7700))
			x.roll(7900)
		}
		x.roll(10_800)
		x.purge(api.Range{From: 200, To: 3602})
	}
}

// P16.3: what was told stays as it was, whatever is done to the stock.
func TestAnswersStay(t *testing.T) {
	for _, change := range []func(x *both){
		func(x *both) { x.put([]api.Point{{At: 7200, Value: 99}, {At: 7201, Value: 98}}) },
		func(x *both) { x.roll(14_400) },
		func(x *both) { x.purge(api.Range{From: 0, To: 3601}) },
		func(x *both) { x.purge(whole) },
		func(x *both) { x.drop(api.Raw, at(0, 7200)) },
		func(x *both) { x.drop(api.Mid, at(0)) },
		func(x *both) { x.drop(api.Long, every) },
	} {
		x := some(t)
		l, mids, longs := x.s.Points(wide), x.s.Aggs(api.Mid, wide), x.s.Aggs(api.Long, wide)
		wasL, wasMids, wasLongs := x.b.get(wide), x.b.getAggs(1, wide), x.b.getAggs(2, wide)
		change(x)
		x.put(points(20_000))
		x.roll(25_200)
		checkList(t, "Points, told ahead", l, wasL)
		checkList(t, "Mid, told ahead", mids, wasMids)
		checkList(t, "Long, told ahead", longs, wasLongs)
		scribble(l, stray)
		scribble(mids, strayAgg)
		scribble(longs, strayAgg)
		x.check()
	}
}
