package hold_test

import (
	"fmt"
	"math/rand"
	"slices"
	"testing"

	"catacomb/api"
)

// chance is where acts by chance come from: ticks from one on, so many.
type chance struct {
	*rand.Rand
	base, span int64
}

func pick[T any](c chance, l []T) T { return l[c.Intn(len(l))] }

// name is one of a few more than a table has room for, seldom a text that is none.
func (c chance) name() string {
	if c.Intn(25) == 0 {
		return pick(c, wrong())
	}
	return fmt.Sprintf("h%d", c.Intn(most+5))
}

// within is a range, seldom one that isn't right.
func (c chance) within() api.Range {
	if c.Intn(15) == 0 {
		return pick(c, noRanges())
	}
	from := c.base + c.Int63n(c.span)
	return api.Range{From: from, To: from + 1 + c.Int63n(max(1, c.base+c.span-from))}
}

// hold is one of these.
func (c chance) hold() api.Hold {
	series := pick(c, []string{"cpu", "cpu", "mem", "disk-1", "cpu0", ""})
	if c.Intn(25) == 0 {
		series = pick(c, wrong())
	}
	return api.Hold{Name: c.name(), Series: series, Range: c.within()}
}

// step does one act by chance; adds of so many are releases.
func (x *both) step(c chance, releases int) {
	x.t.Helper()
	switch n := c.Intn(20); {
	case n < releases:
		name := c.name()
		_, want := x.l.release(name)
		x.release(name, want)
	case n == 19:
		x.h = x.h.Copy()
	default:
		h := c.hold()
		_, want := x.l.add(h)
		x.add(h, want)
	}
}

// P17.1: acts by chance on few ticks, all ranges of them asked behind each.
func TestChance(t *testing.T) {
	for seed := range int64(24) {
		base := []int64{0, 0, 3590, maxTime - 9}[seed%4]
		c := chance{rand.New(rand.NewSource(seed)), base, 10}
		ticks := []int64{least, greatest}
		for at := base - 2; at < base+13; at++ {
			ticks = append(ticks, at)
		}
		x := fresh(t)
		for range 150 {
			x.step(c, []int{3, 6, 9, 12}[seed/4%4])
			checkTicks(t, x.h, x.l, ticks)
		}
	}
}

// P17.1: many acts by chance on many ticks, some edges asked behind each.
func TestChanceWide(t *testing.T) {
	reached := 0
	for seed := range int64(20) {
		c := chance{rand.New(rand.NewSource(seed + 100)), 0, []int64{100, 4000, 1 << 20, maxTime + 1}[seed%4]}
		x := fresh(t)
		for range 400 {
			x.step(c, 4+int(seed%5))
			reached = max(reached, len(x.l))
			edges := x.l.edges()
			var ticks []int64
			for range 6 {
				ticks = append(ticks, pick(c, edges))
			}
			checkTicks(t, x.h, x.l, ticks)
		}
		x.check()
	}
	if reached != most {
		t.Fatalf("no table was full, but one of %d", reached)
	}
}

// P17.1: what was held is the same in whatever order the same holds were added, with others released between.
func TestChanceOrders(t *testing.T) {
	for seed := range int64(60) {
		c := chance{rand.New(rand.NewSource(seed + 200)), 0, 60}
		holds := full()[:1+c.Intn(most)]
		x := fresh(t)
		for _, i := range c.Perm(len(holds)) {
			x.add(one("q", "mem", 0, 500), api.OK)
			x.release("q", api.OK)
			x.add(holds[i], api.OK)
		}
		checkHeld(t, x.h, holds)
		checkTicks(t, x.h, holds, list(holds).edges())
	}
}

// checkTickByTick holds Meets of a range against Covers of its ticks, one by one.
func checkTickByTick(t *testing.T, x *both, series string, r api.Range) {
	t.Helper()
	want := false
	for at := r.From; at < r.To; at++ {
		want = want || x.h.Covers(series, at)
	}
	if got := x.h.Meets(series, r); got != want {
		t.Fatalf("Meets(%q, %v): %v with %v", series, r, got, x.l)
	}
}

// P17.1: a range meets a hold just if one of its ticks is covered: all ranges against all holds.
func TestMeetsTickByTick(t *testing.T) {
	for _, base := range []int64{0, 297, maxTime - 7} {
		for from := base; from < base+8; from++ {
			for to := from + 1; to <= base+8; to++ {
				x := &both{t: t}
				x.h = with(t, one("a", "cpu", from, to)).h
				for a := base - 2; a <= base+10; a++ {
					for b := base - 2; b <= base+10; b++ {
						checkTickByTick(t, x, "cpu", api.Range{From: a, To: b})
						checkTickByTick(t, x, "mem", api.Range{From: a, To: b})
					}
				}
			}
		}
	}
}

// P17.1: a range meets holds just if one of its ticks is covered: tables by chance.
func TestMeetsTickByTickByChance(t *testing.T) {
	for seed := range int64(150) {
		c := chance{rand.New(rand.NewSource(seed + 300)), 0, []int64{12, 30, 200}[seed%3]}
		x := fresh(t)
		for range 1 + c.Intn(20) {
			x.step(c, 4)
		}
		for range 200 {
			from := c.Int63n(c.span+6) - 3
			checkTickByTick(t, x, pick(c, asked()), api.Range{From: from, To: from + c.Int63n(9)})
		}
	}
}

// P17.1: Any is so just if the whole range of ticks meets a hold.
func TestAnyIsMeetsOfAll(t *testing.T) {
	whole := api.Range{From: 0, To: maxTime + 1}
	for seed := range int64(100) {
		c := chance{rand.New(rand.NewSource(seed + 400)), 0, maxTime + 1}
		x := fresh(t)
		for range 10 {
			x.step(c, 8)
			for _, series := range slices.Concat(asked(), right(), wrong()) {
				if x.h.Any(series) != x.h.Meets(series, whole) {
					t.Fatalf("Any(%q): %v with %v", series, x.h.Any(series), x.l)
				}
			}
		}
	}
}
