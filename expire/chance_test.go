package expire_test

import (
	"math/rand"
	"slices"
	"testing"

	"catacomb/api"
	"catacomb/expire"
	"catacomb/tier"
)

// chance tells stocks, holds, policies and ticks by chance, from a tick on.
type chance struct {
	*rand.Rand
	base, span int64
}

// bases are where stocks by chance begin: a multiple of Long's width each.
var bases = []int64{0, 0, 36_000_000, 1_099_511_625_600 - 36_000}

// tick is one near those that a stock has.
func (c chance) tick() int64 {
	at := c.base + c.Int63n(c.span)
	if c.Intn(3) == 0 {
		// At a window's edge, or beside it.
		at += widths[1+c.Intn(2)] - 1 - at%widths[1+c.Intn(2)] + int64(c.Intn(3)-1)
	}
	return min(max(at, 0), maxTime)
}

// ticks are some of them, rising.
func (c chance) ticks(n int) []int64 {
	var l []int64
	for range n {
		l = append(l, c.tick())
	}
	slices.Sort(l)
	return slices.Compact(l)
}

// windows are some aggregates of a tier, below a mark.
func (c chance) windows(n int, width, mark int64) []api.Agg {
	var l []int64
	for _, at := range c.ticks(n) {
		if at < mark {
			l = append(l, at-at%width)
		}
	}
	return aggs(slices.Compact(l)...)
}

// lists are any that a stock may have.
func (c chance) lists() lists {
	var l lists
	l.points = points(c.ticks(c.Intn(30))...)
	at := c.tick() + c.Int63n(2)*mid
	l.marks[1] = at - at%mid
	at = min(c.tick(), l.marks[1])
	if c.Intn(2) == 0 {
		at = l.marks[1]
	}
	l.marks[2] = at - at%long
	l.aggs[1] = c.windows(c.Intn(30), mid, l.marks[1])
	l.aggs[2] = c.windows(c.Intn(12), long, l.marks[2])
	return l
}

// names are those of series.
var names = []string{"cpu", "mem", "", "No name"}

// holds are some, of a few series.
func (c chance) holds() []api.Hold {
	var l []api.Hold
	for i := range c.Intn(4) * c.Intn(5) {
		from := c.tick()
		to := min(from+1+c.Int63n(1<<c.Intn(13)), maxTime+1)
		l = append(l, api.Hold{Name: string(rune('a' + i)), Series: names[c.Intn(3)], Range: api.Range{From: from, To: to}})
	}
	return l
}

// policy is one that may be.
func (c chance) policy() api.Policy {
	var l [3]int64
	for i := range l {
		from := int64(1)
		if i > 0 {
			from = l[i-1]
		}
		if i > 0 && from == 0 || c.Intn(5) == 0 {
			continue
		}
		l[i] = min(from+c.Int63n(1<<c.Intn(14))*int64(c.Intn(2)), maxTime)
		if c.Intn(40) == 0 {
			l[i] = min(from+c.Int63n(maxTime), maxTime)
		}
	}
	return of(l[0], l[1], l[2])
}

// now is a tick at which something may go just so, or any.
func (c chance) now(l lists, p api.Policy) int64 {
	i := c.Intn(3)
	ends := l.ends(i)
	if len(ends) == 0 || c.Intn(4) == 0 {
		return []int64{0, maxTime, c.tick(), c.Int63n(maxTime + 1)}[c.Intn(4)]
	}
	at := ends[c.Intn(len(ends))] + numbers(p)[i] + int64(c.Intn(3)-1)
	return min(max(at, 0), maxTime)
}

// goneOn holds a stock, act by act, against one that was made of its lists.
func goneOn(t *testing.T, c chance, s *tier.Stock) {
	t.Helper()
	other := told(t, s).stock(t)
	for range 6 {
		l, now := points(c.ticks(5)...), c.tick()
		n, e := s.Put(l)
		if m, f := other.Put(l); n != m || e != f {
			t.Fatalf("Put: %d, %d, want %d, %d", n, int(e), m, int(f))
		}
		n, e = s.Roll(now)
		if m, f := other.Roll(now); n != m || e != f {
			t.Fatalf("Roll: %d, %d, want %d, %d", n, int(e), m, int(f))
		}
		checkTold(t, "gone on with", s, told(t, other))
	}
}

// P19.1, P19.2: lists, holds, policies and ticks by chance.
func TestChance(t *testing.T) {
	var all expire.Count
	for seed := range int64(12_000) {
		c := chance{rand.New(rand.NewSource(seed)), bases[seed%4], []int64{2000, 9000, 36_000}[seed%3]}
		x := scene{l: c.lists(), series: names[c.Intn(4)], holds: c.holds(), p: c.policy()}
		x.now = c.now(x.l, x.p)
		s, went := x.run(t)
		for i, n := range went {
			all[i] += n
		}
		checkNext(t, s, told(t, s), x.p)
		checkNext(t, x.l.stock(t), x.l, x.p)
		if seed%4 == 0 {
			goneOn(t, c, s)
		}
	}
	for i, n := range all {
		if n < 1500 {
			t.Fatalf("just %d of tier %d went", n, i)
		}
	}
}

// act does something to a stock by chance, but Series.
func (c chance) act(s *tier.Stock) {
	switch c.Intn(10) {
	case 0, 1, 2, 3:
		from := s.Mark(api.Mid)
		l := c.ticks(10)
		s.Put(points(slices.DeleteFunc(l, func(at int64) bool { return at < from })...))
	case 4, 5, 6:
		s.Roll(c.tick())
	case 7:
		from := c.tick()
		s.Purge(api.Range{From: from, To: min(from+c.Int63n(900), maxTime) + 1})
	case 8:
		lot := 2 + c.Int63n(9)
		s.Drop(c.Intn(3), func(r api.Range) bool { return r.From%lot == 0 })
	}
}

// P19.1, P19.2: stocks by acts by chance; Due, Series and Next between them, and the stock is gone on with.
func TestChanceActs(t *testing.T) {
	for seed := range int64(300) {
		c := chance{rand.New(rand.NewSource(seed)), bases[seed%4], []int64{3000, 12_000, 36_000}[seed%3]}
		s := tier.New()
		if c.base > 0 {
			s = lists{marks: [3]int64{0, c.base, c.base}}.stock(t)
		}
		for range 30 {
			c.act(s)
			x := scene{l: told(t, s), series: names[c.Intn(4)], holds: c.holds(), p: c.policy()}
			x.now = c.now(x.l, x.p)
			x.run(t)
			checkNext(t, s, x.l, x.p)
			h := table(t, x.holds)
			left, want := x.after()
			checkCount(t, "Due", expire.Due(s, x.series, h, x.p, x.now), want)
			checkTold(t, "behind Due", s, x.l)
			if c.Intn(3) > 0 {
				continue
			}
			got, e := expire.Series(s, x.series, h, x.p, x.now)
			if e != api.OK {
				t.Fatalf("Series: %d", int(e))
			}
			checkCount(t, "Series", got, want)
			checkTold(t, "behind Series", s, left)
			for _, h := range x.holds {
				if h.Series == "" || h.Series == x.series {
					stays(t, x.l, left, h.Range)
				}
			}
		}
	}
}

// P19.1: what is refused by chance changes nothing, and tells nothing.
func TestChanceRefused(t *testing.T) {
	for seed := range int64(2000) {
		c := chance{rand.New(rand.NewSource(seed)), bases[seed%4], 9000}
		x := scene{l: c.lists(), holds: c.holds(), p: c.policy()}
		now := c.now(x.l, x.p)
		p := x.p
		if c.Intn(2) == 0 {
			now = []int64{-1, maxTime + 1, -c.Int63(), maxTime + 1 + c.Int63n(greatest-maxTime)}[c.Intn(4)]
		} else {
			l := wrongPolicies()
			p = l[c.Intn(len(l))]
		}
		s, h := x.l.stock(t), table(t, x.holds)
		if got, e := expire.Series(s, "cpu", h, p, now); got != (expire.Count{}) || e != api.ErrArg {
			t.Fatalf("Series by %v at %d: %v, %d", p, now, got, int(e))
		}
		checkCount(t, "Due", expire.Due(s, "cpu", h, p, now), expire.Count{})
		checkTold(t, "what was refused", s, x.l)
		checkHolds(t, "what was refused", h, x.holds)
		checkNext(t, s, x.l, p)
	}
}

// P19.2: what goes changes nothing of what is rolled later: only what went into the next wider tier goes.
func TestChanceRolledLater(t *testing.T) {
	for seed := range int64(400) {
		c := chance{rand.New(rand.NewSource(seed)), bases[seed%4], []int64{3000, 12_000, 30_000}[seed%3]}
		s := lists{marks: [3]int64{0, c.base, c.base}}.stock(t)
		other := s.Copy()
		mids, longs := map[int64]api.Agg{}, map[int64]api.Agg{}
		p := c.policy()
		p.Mid, p.Long = p.Mid*int64(c.Intn(2)), 0
		now := c.base
		for now < c.base+c.span {
			now = min(now+c.Int63n(2000), maxTime)
			l := points(now, min(now+c.Int63n(1000), maxTime), min(now+c.Int63n(1000), maxTime))
			s.Put(l)
			other.Put(l)
			s.Roll(now)
			other.Roll(now)
			for _, a := range s.Aggs(api.Mid, wide) {
				mids[a.At] = a
			}
			for _, a := range s.Aggs(api.Long, wide) {
				longs[a.At] = a
			}
			expire.Series(s, "cpu", nil, p, now)
			if now == maxTime {
				break
			}
		}
		for i, m := range [3]map[int64]api.Agg{nil, mids, longs} {
			for _, a := range other.Aggs(i, wide) {
				if m[a.At] != a {
					t.Fatalf("tier %d: %v was told, without Series %v", i, m[a.At], a)
				}
			}
		}
	}
}
