package tier_test

import (
	"math/rand"
	"testing"

	"catacomb/api"
)

// act does one act by chance, and holds it against the table.
func (x *both) chance(c chance) {
	x.t.Helper()
	switch c.Intn(12) {
	case 0, 1, 2, 3:
		// Now and then below the mark, or outside.
		from := x.b.marks[1] - int64(c.Intn(40)/39)
		l := c.points(14, from)
		if c.Intn(30) == 0 {
			l = append(l, api.Point{At: maxTime + 1 + c.Int63n(5)})
		}
		x.put(l)
	case 4, 5:
		x.roll(c.tick())
	case 6:
		r := c.within()
		if c.Intn(8) == 0 {
			r.From, r.To = r.To, r.From
		}
		x.purge(r)
	case 7, 8:
		x.drop(c.Intn(3), c.gone())
	case 9:
		x.free(c.points(20, 0))
	case 10:
		for range 5 {
			x.look(c.within())
		}
	case 11:
		if c.Intn(2) == 0 {
			x.s = again(x.t, x.s)
		} else {
			x.s = x.s.Copy()
		}
		x.check()
	}
}

// P16.1, P16.2: acts by chance against a plain table, near 0 and near MaxTime.
func TestChance(t *testing.T) {
	for seed := range int64(240) {
		c := chance{rand.New(rand.NewSource(seed)), 0, []int64{700, 4000, 12_000, 40_000}[seed%4]}
		x := fresh(t)
		if seed%8 >= 4 {
			c.base = lastLong - c.span/2/long*long
			x = restored(t, nil, nil, nil, [3]int64{0, c.base / mid * mid, c.base / long * long})
		}
		for range 60 {
			x.chance(c)
		}
	}
}

// P16.1: acts by chance on stocks that are nearly full, where aggregates don't go in.
func TestChanceFull(t *testing.T) {
	stops := 0
	for seed := range int64(60) {
		c := chance{rand.New(rand.NewSource(seed)), most * long, 60_000}
		mids, longs := most-c.Intn(12), most-c.Intn(6)
		x := restored(t, nil, aggs(mids, most*long-most*mid, mid), aggs(longs, 0, long), [3]int64{0, most * long, most * long})
		for range 50 {
			switch c.Intn(5) {
			case 0, 1:
				x.put(c.points(6, x.b.marks[1]))
			case 2, 3:
				if _, e := x.roll(c.tick()); e == api.ErrFull {
					stops++
				}
			case 4:
				lot := 1 + c.Int63n(40)
				x.drop(c.Intn(3), func(r api.Range) bool { return r.From/mid%lot == 0 })
			}
		}
	}
	if stops < 80 {
		t.Fatalf("just %d times an aggregate didn't go in", stops)
	}
}

// P16.2: what Restore makes of what a stock tells goes on as it, act by act.
func TestChanceRestored(t *testing.T) {
	for seed := range int64(150) {
		c := chance{rand.New(rand.NewSource(seed)), 0, 9000}
		x := pair{t: t, a: fresh(t).s}
		x.b = x.a.Copy()
		for range 20 {
			x.step(c, api.Range{})
		}
		x.b = again(t, x.a)
		for range 30 {
			x.step(c, api.Range{})
			checkSame(t, x.a, x.b)
		}
	}
}
