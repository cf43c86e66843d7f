package policy_test

import (
	"math/rand"
	"testing"

	"catacomb/api"
	"catacomb/policy"
)

// checkStricterGone: what is gone by one of two is gone by the stricter one of both, and nothing besides.
func checkStricterGone(t *testing.T, a, b api.Policy, tier int, r api.Range, now int64) {
	t.Helper()
	by := policy.Gone(a, tier, r, now) || policy.Gone(b, tier, r, now)
	checkGone(t, policy.Stricter(a, b), tier, r, now, by)
	checkGone(t, policy.Stricter(b, a), tier, r, now, by)
	if t.Failed() {
		t.Fatalf("by %v and %v", a, b)
	}
}

// P18.2: what is gone by one of two policies is gone by the stricter one of both, whatever they are: all small numbers, and the ends.
func TestStricterGoneAll(t *testing.T) {
	for _, l := range [][]int64{small(-2, 6), ends} {
		for _, n := range l {
			for _, m := range l {
				for _, now := range l {
					for _, to := range l {
						for tier := range api.Tiers {
							checkStricterGone(t, only(tier, n), only(tier, m), tier, upTo(to), now)
						}
					}
				}
			}
		}
	}
}

// P18.2: and so it is of policies by chance.
func TestStricterGoneChance(t *testing.T) {
	c := chance{rand.New(rand.NewSource(182))}
	gone := 0
	for range 200_000 {
		a, b, tier := c.policy(), c.policy(), c.tier()
		n := policy.Of([]api.Policy{a, b}[c.Intn(2)], tier)
		now := c.number(n)
		r := upTo(c.number(now - n))
		checkStricterGone(t, a, b, tier, r, now)
		if policy.Gone(a, tier, r, now) != policy.Gone(b, tier, r, now) {
			gone++
		}
	}
	if gone < 5000 {
		t.Fatalf("just %d times gone by one of both", gone)
	}
}

// P18.2: what is gone stays gone at each later tick.
func TestStaysGone(t *testing.T) {
	for tier := range api.Tiers {
		for n := int64(-2); n < 40; n++ {
			for to := int64(-5); to < 40; to++ {
				p, was := only(tier, n), false
				for now := int64(-10); now < 100; now++ {
					is := policy.Gone(p, tier, upTo(to), now)
					if was && !is {
						t.Fatalf("%v, up to %d: gone ahead of %d, and not there", p, to, now)
					}
					was = is
				}
				if was != (n > 0) {
					t.Fatalf("%v, up to %d: in the end %v", p, to, was)
				}
			}
		}
	}
}

// P18.2: and so it is of any policies and ticks by chance.
func TestStaysGoneChance(t *testing.T) {
	c := chance{rand.New(rand.NewSource(281))}
	gone := 0
	for range 200_000 {
		p, tier := c.policy(), c.tier()
		n := policy.Of(p, tier)
		now := c.number(n)
		r := upTo(c.number(now - n))
		if !policy.Gone(p, tier, r, now) {
			continue
		}
		gone++
		for _, later := range []int64{min(now, greatest-1) + 1, c.number(now), maxTime, greatest - 1, greatest} {
			if later >= now {
				checkGone(t, p, tier, r, later, true)
			}
		}
		if t.Failed() {
			t.FailNow()
		}
	}
	if gone < 5000 {
		t.Fatalf("just %d times gone", gone)
	}
}

// P18.2: the stricter one of two that may be may be: all of small numbers, and by chance.
func TestStricterRight(t *testing.T) {
	var l []api.Policy
	for _, some := range [][]int64{small(0, 4), {0, 1, maxTime - 1, maxTime}} {
		each(some, func(p api.Policy) {
			if policy.Right(p) {
				l = append(l, p)
			}
		})
	}
	for _, a := range l {
		for _, b := range l {
			checkRight(t, policy.Stricter(a, b), true)
		}
	}
	c := chance{rand.New(rand.NewSource(812))}
	for range 100_000 {
		checkRight(t, policy.Stricter(c.right(), c.right()), true)
	}
}

// P18.1: what is gone of a wider tier by a policy that may be is gone of a narrower one.
func TestNarrowerGone(t *testing.T) {
	c := chance{rand.New(rand.NewSource(128))}
	wider := 0
	for range 200_000 {
		p := c.right()
		tier := 1 + c.Intn(api.Tiers-1)
		n := policy.Of(p, tier)
		now := c.number(n)
		r := upTo(c.number(now - n))
		if !policy.Gone(p, tier, r, now) {
			continue
		}
		wider++
		for narrower := range tier {
			checkGone(t, p, narrower, r, now, true)
		}
		if t.Failed() {
			t.FailNow()
		}
	}
	if wider < 5000 {
		t.Fatalf("just %d times gone", wider)
	}
}
