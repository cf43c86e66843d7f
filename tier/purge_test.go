package tier_test

import (
	"math/rand"
	"slices"
	"testing"

	"catacomb/api"
	"catacomb/tier"
)

// checkSame holds all that two stocks tell against one another.
func checkSame(t *testing.T, a, b *tier.Stock) {
	t.Helper()
	for i := range 3 {
		checkNumber(t, "Len of two", a.Len(i), b.Len(i))
		checkNumber(t, "Mark of two", a.Mark(i), b.Mark(i))
		checkList(t, "Aggs of two", a.Aggs(i, wide), b.Aggs(i, wide))
	}
	checkNumber(t, "Bytes of two", a.Bytes(), b.Bytes())
	checkList(t, "Points of two", a.Points(wide), b.Points(wide))
}

// hidden is points with other values in a range.
func hidden(l []api.Point, r api.Range, value func() int64) []api.Point {
	l = slices.Clone(l)
	for i := range l {
		if l[i].At >= r.From && l[i].At < r.To {
			l[i].Value = value()
		}
	}
	return l
}

// pair is two stocks that are told the same, but for the values in a range.
type pair struct {
	t    *testing.T
	a, b *tier.Stock
}

// each does the same to both, and holds the answers against one another.
func (x pair) each(what string, do func(s *tier.Stock) (int, api.Errno)) {
	x.t.Helper()
	n, e := do(x.a)
	m, f := do(x.b)
	if n != m || e != f {
		x.t.Fatalf("%s: %d, %d and %d, %d", what, n, int(e), m, int(f))
	}
}

// P16.3: what went doesn't come back in sums, nor as the least or the greatest value.
func TestPurgeLeavesNothing(t *testing.T) {
	values := []int64{0, 1, -1, 77, least, least + 1, greatest, greatest - 1}
	beside := []api.Point{{At: 0, Value: greatest}, {At: 100, Value: 5}, {At: 599, Value: least}, {At: 650, Value: -4}, {At: 3600, Value: 1}}
	r := api.Range{From: 101, To: 599}
	bare := tier.New()
	bare.Put(beside)
	bare.Roll(7200)
	for _, a := range values {
		for _, b := range values {
			s := tier.New()
			if n, e := s.Put(append([]api.Point{{At: 101, Value: a}, {At: 400, Value: b}, {At: 598, Value: a}}, beside...)); n != 8 || e != api.OK {
				t.Fatal(n, e)
			}
			s.Roll(7200)
			checkNumber(t, "Purge", s.Purge(r), 3)
			checkSame(t, s, bare)
			checkSame(t, again(t, s), bare)
		}
	}
}

// P16.3: behind a purge of aggregates whose points are gone they tell of what is left alone.
func TestPurgeOfWhatIsGone(t *testing.T) {
	for _, value := range []int64{0, 8, least, greatest} {
		s := tier.New()
		s.Put([]api.Point{{At: 10, Value: value}, {At: 20, Value: 6}, {At: 310, Value: value}, {At: 700, Value: 3}})
		s.Roll(3600)
		s.Drop(api.Raw, at(10, 310))
		checkNumber(t, "Purge", s.Purge(api.Range{From: 10, To: 311}), 1)
		checkList(t, "Mid", s.Aggs(api.Mid, wide), []api.Agg{{At: 600, Count: 1, Sum: 3, Min: 3, Max: 3}})
		checkList(t, "Long", s.Aggs(api.Long, wide), []api.Agg{{At: 0, Count: 1, Sum: 3, Min: 3, Max: 3}})
	}
}

// chance is where acts by chance come from: ticks near the marks, values of all kinds.
type chance struct {
	*rand.Rand
	base, span int64
}

func (c chance) tick() int64 {
	at := c.base + c.Int63n(c.span)
	switch c.Intn(4) {
	case 0:
		return at / mid * mid
	case 1:
		return at/long*long + int64(c.Intn(3)) - 1
	}
	return at
}

func (c chance) value() int64 {
	switch c.Intn(8) {
	case 0:
		return greatest - int64(c.Intn(3))
	case 1:
		return least + int64(c.Intn(3))
	case 2:
		return int64(c.Uint64())
	}
	return int64(c.Intn(40)) - 20
}

// points are up to so many, from a tick on.
func (c chance) points(n int, from int64) []api.Point {
	var l []api.Point
	for range c.Intn(n + 1) {
		l = append(l, api.Point{At: max(c.tick(), from), Value: c.value()})
	}
	return l
}

func (c chance) within() api.Range {
	from := max(0, c.tick())
	width := []int64{1, 2, 20, mid, 1000, long, 9000}[c.Intn(7)]
	r := api.Range{From: from, To: from + 1 + c.Int63n(width)}
	if c.Intn(6) == 0 {
		r = api.Range{From: from / mid * mid, To: from/mid*mid + mid}
	}
	return r
}

// gone tells of some ranges, the same of the same one.
func (c chance) gone() func(api.Range) bool {
	part, add, bound := 1+c.Int63n(4), c.Int63n(7), c.tick()
	if c.Intn(3) == 0 {
		return func(r api.Range) bool { return r.To <= bound }
	}
	return func(r api.Range) bool { return (r.From/mid+r.From/7+add)%part == 0 }
}

// step does one act by chance to both stocks; points in hide have other values in each.
func (x pair) step(c chance, hide api.Range) {
	x.t.Helper()
	switch c.Intn(7) {
	case 0, 1, 2:
		l := c.points(12, x.a.Mark(api.Mid)-int64(c.Intn(30)/29))
		other := hidden(l, hide, c.value)
		n, e := x.a.Put(l)
		m, f := x.b.Put(other)
		if n != m || e != f {
			x.t.Fatalf("Put: %d, %d and %d, %d", n, int(e), m, int(f))
		}
	case 3:
		now := c.tick()
		x.each("Roll", func(s *tier.Stock) (int, api.Errno) { return s.Roll(now) })
	case 4:
		r := c.within()
		if c.Intn(2) == 0 {
			return
		}
		x.each("Purge", func(s *tier.Stock) (int, api.Errno) { return s.Purge(r), api.OK })
	case 5:
		i, gone := c.Intn(3), c.gone()
		x.each("Drop", func(s *tier.Stock) (int, api.Errno) { return s.Drop(i, gone), api.OK })
	case 6:
		l := c.points(12, 0)
		x.each("Free", func(s *tier.Stock) (int, api.Errno) { return s.Free(l), api.OK })
	}
}

// P16.3: two stocks that were told the same, but for the values in a range, are alike behind its purge, however both go on.
func TestPurgePairs(t *testing.T) {
	for seed := range int64(1500) {
		c := chance{rand.New(rand.NewSource(seed)), 0, []int64{700, 4000, 12_000, 40_000}[seed%4]}
		hide := c.within()
		x := pair{t, tier.New(), tier.New()}
		for range 5 + c.Intn(30) {
			x.step(c, hide)
		}
		// A range that has all of it will do, too.
		r := hide
		if c.Intn(3) == 0 {
			r = api.Range{From: max(0, r.From-int64(c.Intn(400))), To: r.To + int64(c.Intn(400))}
		}
		x.each("Purge", func(s *tier.Stock) (int, api.Errno) { return s.Purge(r), api.OK })
		checkSame(t, x.a, x.b)
		for range 15 {
			x.step(c, api.Range{})
			checkSame(t, x.a, x.b)
		}
	}
}

// P16.3: behind a purge of parts that have all of a range, one by one, too.
func TestPurgeByParts(t *testing.T) {
	for seed := range int64(300) {
		c := chance{rand.New(rand.NewSource(seed)), 0, 9000}
		hide := c.within()
		x := pair{t, tier.New(), tier.New()}
		for range 30 {
			x.step(c, hide)
		}
		var cuts []int64
		for range c.Intn(4) {
			cuts = append(cuts, hide.From+c.Int63n(hide.To-hide.From))
		}
		cuts = append(cuts, hide.From, hide.To)
		slices.Sort(cuts)
		for i := range cuts[1:] {
			r := api.Range{From: cuts[i], To: cuts[i+1]}
			x.a.Purge(r)
			x.b.Purge(r)
		}
		checkSame(t, x.a, x.b)
	}
}

// P16.3: where nothing was dropped, and all went in, a stock is as if the points hadn't been there.
func TestPurgeAsIfNot(t *testing.T) {
	for seed := range int64(400) {
		c := chance{rand.New(rand.NewSource(seed)), 0, 12_000}
		hide := c.within()
		had, bare := tier.New(), tier.New()
		for range 10 {
			l := c.points(12, had.Mark(api.Mid))
			rest := slices.DeleteFunc(slices.Clone(l), func(p api.Point) bool { return p.At >= hide.From && p.At < hide.To })
			_, e := had.Put(l)
			_, f := bare.Put(rest)
			if e != api.OK || f != api.OK {
				t.Fatalf("Put: %d, %d", int(e), int(f))
			}
			if c.Intn(2) == 0 {
				now := c.tick()
				had.Roll(max(now, 0))
				bare.Roll(max(now, 0))
			}
		}
		had.Purge(hide)
		checkSame(t, had, bare)
		had.Roll(20_000)
		bare.Roll(20_000)
		checkSame(t, had, bare)
	}
}

// P16.3: of aggregates that Restore is handed in, too, nothing is left in windows that the range meets.
func TestPurgeRestored(t *testing.T) {
	r := api.Range{From: 500, To: 3700}
	make2 := func(value int64) *tier.Stock {
		p := usual()
		for i := range p.mids {
			if p.mids[i].At >= 300 {
				p.mids[i] = api.Agg{At: p.mids[i].At, Count: 3, Sum: value, Min: value, Max: value}
			}
		}
		for i := range p.longs {
			p.longs[i] = api.Agg{At: p.longs[i].At, Count: 9, Sum: value, Min: value, Max: value}
		}
		s, _ := tier.Restore(p.points, p.mids, p.longs, p.marks)
		checkNumber(t, "Purge", s.Purge(r), 1)
		return s
	}
	for _, value := range []int64{1, least, greatest} {
		s := make2(value)
		checkSame(t, s, make2(0))
		checkList(t, "Mid", s.Aggs(api.Mid, wide), []api.Agg{{At: 0, Count: 1, Sum: 10, Min: 10, Max: 10}, {At: 300, Count: 1, Sum: 11, Min: 11, Max: 11}})
		checkList(t, "Long", s.Aggs(api.Long, wide), []api.Agg{{At: 0, Count: 2, Sum: 21, Min: 10, Max: 11}})
	}
}
