package purge_test

import (
	"math/rand"
	"slices"
	"testing"

	"catacomb/api"
	"catacomb/purge"
	"catacomb/tier"
)

// chance tells stocks, holds and ranges by chance, from a tick on.
type chance struct {
	*rand.Rand
	base, span int64
}

// bases are where stocks by chance begin: a multiple of Long's width each.
var bases = []int64{0, 0, 36_000_000, lastLong - 7200}

// by is a chance of its own for each number.
func by(seed int64) chance {
	return chance{rand.New(rand.NewSource(seed)), bases[seed%4], []int64{700, 2000, 9000, 36_000}[seed/4%4]}
}

// tick is one near those that a stock has.
func (c chance) tick() int64 {
	at := c.base + c.Int63n(c.span)
	width := []int64{1, mid, long}[c.Intn(3)]
	if c.Intn(2) == 0 {
		// At a window's edge, or beside it.
		at = at/width*width + int64(c.Intn(3)-1)
	}
	return min(max(at, 0), maxTime)
}

// ticks are some of them, rising.
func (c chance) ticks(n int) []int64 {
	var l []int64
	for range n {
		l = append(l, c.tick())
	}
	slices.Sort(l)
	return slices.Compact(l)
}

func (c chance) value() int64 {
	switch c.Intn(8) {
	case 0:
		return greatest - int64(c.Intn(3))
	case 1:
		return least + int64(c.Intn(3))
	case 2:
		return int64(c.Uint64())
	}
	return int64(c.Intn(7)) - 3
}

// points are some, rising.
func (c chance) points(n int) []api.Point {
	var l []api.Point
	for _, at := range c.ticks(n) {
		l = append(l, api.Point{At: at, Value: c.value()})
	}
	return l
}

// agg is any that may be of a window; some are such as one point's would be.
func (c chance) agg(at int64) api.Agg {
	if c.Intn(2) == 0 {
		return one(at, int64(c.Intn(7))-3)
	}
	a, b := c.value(), c.value()
	return api.Agg{At: at, Count: 1 + c.Int63n([]int64{2, 5, greatest}[c.Intn(3)]), Sum: c.value(), Min: min(a, b), Max: max(a, b)}
}

// windows are some aggregates below a mark.
func (c chance) windows(n int, width, mark int64) []api.Agg {
	var l []api.Agg
	for _, at := range c.ticks(n) {
		at -= at % width
		if at < mark && (len(l) == 0 || l[len(l)-1].At < at) {
			l = append(l, c.agg(at))
		}
	}
	return l
}

// lists are any that a stock may have.
func (c chance) lists() lists {
	l := lists{points: c.points(c.Intn(30))}
	at := c.tick() + c.Int63n(2)*mid
	l.marks[1] = at - at%mid
	at = min(c.tick(), l.marks[1])
	if c.Intn(2) == 0 {
		at = l.marks[1]
	}
	l.marks[2] = at - at%long
	l.mids = c.windows(c.Intn(30), mid, l.marks[1])
	l.longs = c.windows(c.Intn(12), long, l.marks[2])
	return l
}

// within is a range that is right: of a few ticks, of a window, or with both ends anywhere.
func (c chance) within() api.Range {
	from := c.tick()
	r := to(from, from+1+c.Int63n([]int64{1, 2, 20, mid, 1000, long, 9000}[c.Intn(7)]))
	width := []int64{mid, long}[c.Intn(2)]
	switch c.Intn(8) {
	case 0:
		r = to(from/width*width, from/width*width+width)
	case 1:
		r = to(0, from+1)
	case 2:
		r = to(from, maxTime+1)
	case 3:
		other := c.tick()
		r = to(min(from, other), max(from, other)+1)
	}
	return to(r.From, min(r.To, maxTime+1))
}

// names are those of series.
var names = []string{"cpu", "mem", "", "No name"}

// holds are some, of a few series, rising by names.
func (c chance) holds() []api.Hold {
	var l []api.Hold
	for i := range c.Intn(3) * c.Intn(6) {
		from := c.tick()
		end := min(from+1+c.Int63n(1<<c.Intn(13)), maxTime+1)
		l = append(l, api.Hold{Name: string(rune('a' + i)), Series: names[c.Intn(3)], Range: to(from, end)})
	}
	return l
}

// goneOn holds a stock, act by act, against one that was made of its lists.
func goneOn(t *testing.T, c chance, s *tier.Stock) {
	t.Helper()
	other := told(t, s).stock(t)
	for range 6 {
		l, now, r := c.points(6), c.tick(), c.within()
		n, e := s.Put(l)
		if m, f := other.Put(l); n != m || e != f {
			t.Fatalf("Put: %d, %d, want %d, %d", n, int(e), m, int(f))
		}
		n, e = s.Roll(now)
		if m, f := other.Roll(now); n != m || e != f {
			t.Fatalf("Roll: %d, %d, want %d, %d", n, int(e), m, int(f))
		}
		left, did := told(t, other).purged(r)
		checkReport(t, "Plan", purge.Plan(s, r), did)
		checkTold(t, "gone on with", s, told(t, other))
		if c.Intn(3) == 0 {
			checkDo(t, scene{r: r}, s, nil, did, api.OK)
			checkDo(t, scene{r: r}, other, nil, did, api.OK)
			checkTold(t, "gone on with by Do", s, left)
		}
	}
}

// P20.1, P20.2: lists, holds and ranges by chance.
func TestChance(t *testing.T) {
	var all purge.Report
	var kinds [api.ErrOrder + 1]int
	for seed := range int64(20_000) {
		c := by(seed)
		x := scene{l: c.lists(), series: names[c.Intn(4)], holds: c.holds(), r: c.within()}
		if seed%20 == 0 {
			x.r = wrong()[c.Intn(len(wrong()))]
		}
		s, did, e := x.run(t)
		kinds[e]++
		all.Points += did.Points
		all.Windows += did.Windows
		if seed%4 == 0 {
			goneOn(t, c, s)
		}
	}
	if kinds[api.OK] < 5000 || kinds[api.ErrHeld] < 3000 || kinds[api.ErrRange] != 1000 || all.Points < 20_000 || all.Windows < 10_000 {
		t.Fatalf("by chance: %v, %v", kinds, all)
	}
}

// act does something to a stock by chance, but Do.
func (c chance) act(s *tier.Stock) {
	switch c.Intn(10) {
	case 0, 1, 2, 3:
		from := s.Mark(api.Mid)
		s.Put(slices.DeleteFunc(c.points(10), func(p api.Point) bool { return p.At < from }))
	case 4, 5, 6:
		s.Roll(min(s.Mark(api.Mid)+c.Int63n(2000), maxTime))
	case 7:
		s.Roll(c.tick())
	case 8:
		lot := 2 + c.Int63n(9)
		s.Drop(c.Intn(3), func(r api.Range) bool { return r.From%lot == 0 })
	case 9:
		at := c.tick()
		s.Drop(c.Intn(3), func(r api.Range) bool { return r.To <= at })
	}
}

// P20.1, P20.2: stocks by acts by chance; each call between them, and the stock is gone on with.
func TestChanceActs(t *testing.T) {
	var all purge.Report
	for seed := range int64(400) {
		c := by(seed)
		s := lists{marks: [3]int64{0, c.base, c.base}}.stock(t)
		for range 30 {
			c.act(s)
			x := scene{l: told(t, s), series: names[c.Intn(4)], holds: c.holds(), r: c.within()}
			x.run(t)
			h := table(t, x.holds)
			x.checkAsk(t, s, h)
			if c.Intn(4) > 0 {
				continue
			}
			left, did, e := x.l, purge.Report{}, x.refused()
			if e == api.OK {
				left, did = x.l.purged(x.r)
			}
			checkDo(t, x, s, h, did, e)
			checkTold(t, "behind Do", s, left)
			checkHolds(t, "behind Do", h, x.holds)
			all.Points += did.Points
			all.Windows += did.Windows
		}
	}
	if all.Points < 1000 || all.Windows < 500 {
		t.Fatalf("by acts by chance just %v went", all)
	}
}

// P20.1: what is refused by chance changes nothing, and tells nothing.
func TestChanceRefused(t *testing.T) {
	for seed := range int64(2000) {
		c := by(seed)
		x := scene{l: c.lists(), series: "cpu", r: c.within()}
		if c.Intn(2) == 0 {
			a, b := int64(c.Uint64()), int64(c.Uint64())
			x.r = []api.Range{to(max(a, b), min(a, b)), to(-1-c.Int63(), c.tick()), to(c.tick(), maxTime+2+c.Int63n(greatest-maxTime-2)), to(x.r.To, x.r.From), to(a, a)}[c.Intn(5)]
			x.holds = c.holds()
			x.fails(t, api.ErrRange)
			continue
		}
		of := reach(x.r)
		at := of.From + c.Int63n(min(of.To, maxTime+1)-of.From)
		x.holds = []api.Hold{held([]string{"", "cpu"}[c.Intn(2)], at, min(at+1+c.Int63n(4000), maxTime+1))}
		x.fails(t, api.ErrHeld)
	}
}

// P20.1: ranges of a Long window's pieces, one behind the other, come to what one of all of it does; each Plan is what its Do tells.
func TestChancePieces(t *testing.T) {
	for seed := range int64(1000) {
		c := by(seed)
		l, r := c.lists(), c.within()
		whole, pieces := l.stock(t), l.stock(t)
		did, _ := purge.Do(whole, "cpu", nil, r)
		cuts := []int64{r.From, r.To}
		for range c.Intn(4) {
			cuts = append(cuts, r.From+c.Int63n(r.To-r.From))
		}
		slices.Sort(cuts)
		cuts = slices.Compact(cuts)
		went := 0
		for i := range cuts[1:] {
			piece := to(cuts[i], cuts[i+1])
			plan := purge.Plan(pieces, piece)
			got, e := purge.Do(pieces, "cpu", nil, piece)
			if got != plan || e != api.OK {
				t.Fatalf("Do of %v: %v, %d, planned %v", piece, got, int(e), plan)
			}
			went += got.Points
		}
		if went != did.Points {
			t.Fatalf("%d points went by pieces of %v, %d at once", went, r, did.Points)
		}
		checkTold(t, "purged by pieces", pieces, told(t, whole))
	}
}
