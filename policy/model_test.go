package policy_test

import (
	"fmt"
	"math/big"
	"math/rand"
	"testing"

	"catacomb/api"
	"catacomb/policy"
)

// The tests here hold the package against numbers of any width, for which 0 is a number greater than any of the others.

// numbers are those of a policy as they are, by tiers.
func numbers(p api.Policy) [api.Tiers]int64 { return [api.Tiers]int64{p.Raw, p.Mid, p.Long} }

// endless is more than any number of a policy.
var endless = new(big.Int).Lsh(big.NewInt(1), 100)

// wide is a policy's number, 0 as one that is more than any.
func wide(n int64) *big.Int {
	if n == 0 {
		return endless
	}
	return big.NewInt(n)
}

// modelRight is Right, pair by pair of tiers.
func modelRight(p api.Policy) bool {
	l := numbers(p)
	for i, n := range l {
		if n < 0 || n > maxTime {
			return false
		}
		for _, narrower := range l[:i] {
			if wide(n).Cmp(wide(narrower)) < 0 {
				return false
			}
		}
	}
	return true
}

// modelBound is now less a tier's number, or nothing.
func modelBound(p api.Policy, tier int, now int64) *big.Int {
	if tier < 0 || tier >= api.Tiers || numbers(p)[tier] <= 0 {
		return nil
	}
	bound := new(big.Int).Sub(big.NewInt(now), big.NewInt(numbers(p)[tier]))
	if bound.Sign() < 0 {
		return nil
	}
	return bound
}

// modelStricter is the lesser number of each tier; one below 0 just where none is above it.
func modelStricter(a, b api.Policy) api.Policy {
	l := numbers(a)
	for i, n := range numbers(b) {
		apart := l[i] < 0 && n > 0 || l[i] > 0 && n < 0
		if apart != (wide(n).Cmp(wide(l[i])) < 0) {
			l[i] = n
		}
	}
	return of(l[0], l[1], l[2])
}

// modelText is Text, number by number.
func modelText(p api.Policy) string {
	text := ""
	for i, n := range numbers(p) {
		digits := fmt.Sprint(n)
		if n == 0 {
			digits = "ever"
		}
		text += []string{"raw=", " mid=", " long="}[i] + digits
	}
	return text
}

// same holds all that is told of a policy at a tick against the model.
func same(t *testing.T, p api.Policy, tier int, r api.Range, now int64) {
	t.Helper()
	bound := modelBound(p, tier, now)
	checkGone(t, p, tier, r, now, bound != nil && big.NewInt(r.To).Cmp(bound) <= 0)
	got, ok := policy.Bound(p, tier, now)
	if ok != (bound != nil) || !ok && got != 0 || ok && big.NewInt(got).Cmp(bound) != 0 {
		t.Errorf("Bound(%v, %d, %d): %d, %v, want %v", p, tier, now, got, ok, bound)
	}
	if ok {
		checkGone(t, p, tier, api.Range{From: r.From, To: got}, now, true)
		checkGone(t, p, tier, api.Range{From: r.From, To: got + 1}, now, false)
	}
	if t.Failed() {
		t.FailNow()
	}
}

// sameOwn holds all that is told of two policies themselves against the model.
func sameOwn(t *testing.T, a, b api.Policy) {
	t.Helper()
	checkRight(t, a, modelRight(a))
	checkText(t, a, modelText(a))
	checkStricter(t, a, b, modelStricter(a, b))
	for tier := range api.Tiers {
		if got := policy.Of(a, tier); got != numbers(a)[tier] {
			t.Errorf("Of(%v, %d): %d", a, tier, got)
		}
	}
	if t.Failed() {
		t.FailNow()
	}
}

// each calls a function for each policy of some numbers.
func each(l []int64, f func(api.Policy)) {
	for _, raw := range l {
		for _, mid := range l {
			for _, long := range l {
				f(of(raw, mid, long))
			}
		}
	}
}

// small are numbers near 0.
func small(from, to int64) []int64 {
	var l []int64
	for n := from; n <= to; n++ {
		l = append(l, n)
	}
	return l
}

// chance tells policies and ticks by chance.
type chance struct{ *rand.Rand }

// number is one of any size, often at an end, or near one that is given.
func (c chance) number(near int64) int64 {
	switch c.Intn(6) {
	case 0:
		return ends[c.Intn(len(ends))]
	case 1:
		return near + int64(c.Intn(5)-2) // goes round now and then
	case 2:
		return int64(c.Intn(400) - 30)
	case 3:
		return c.Int63n(maxTime + 3)
	case 4:
		return 0
	}
	return int64(c.Uint64() >> c.Intn(64))
}

// policy is any policy.
func (c chance) policy() api.Policy {
	raw := c.number(0)
	mid := c.number(raw)
	return of(raw, mid, c.number(mid))
}

// right is a policy that may be.
func (c chance) right() api.Policy {
	var l [api.Tiers]int64
	for i := range api.Tiers {
		from := int64(1)
		if i > 0 {
			from = l[i-1]
		}
		if i > 0 && from == 0 || c.Intn(4) == 0 {
			continue
		}
		l[i] = min(from+c.Int63n(1<<c.Intn(41))*int64(c.Intn(2)), maxTime)
	}
	return of(l[0], l[1], l[2])
}

// tier is a tier, or now and then none.
func (c chance) tier() int { return c.Intn(api.Tiers+2) - 1 }

// P18.1: all small policies, and those at the ends, on themselves.
func TestAllPolicies(t *testing.T) {
	for _, l := range [][]int64{small(-2, 5), {least, -maxTime, -1, 0, 1, maxTime - 1, maxTime, maxTime + 1, greatest}} {
		each(l, func(a api.Policy) {
			each(l, func(b api.Policy) { sameOwn(t, a, b) })
		})
	}
}

// P18.1: all small numbers, ends and ticks, and all at the ends, in each tier and beside them.
func TestAllTicks(t *testing.T) {
	for _, l := range [][]int64{small(-3, 9), ends} {
		for _, n := range l {
			for _, now := range l {
				for _, to := range l {
					for tier := -1; tier <= api.Tiers; tier++ {
						same(t, of(n, now, to), tier, upTo(to), now)
						same(t, of(to, n, now), tier, upTo(to), now)
						same(t, of(now, to, n), tier, upTo(to), now)
					}
				}
			}
		}
	}
}

// P18.1: policies, ranges and ticks of any size by chance.
func TestChance(t *testing.T) {
	c := chance{rand.New(rand.NewSource(18))}
	for range 200_000 {
		p, tier := c.policy(), c.tier()
		n := policy.Of(p, tier)
		now := c.number(n)
		r := api.Range{From: c.number(now - n), To: c.number(now - n)}
		same(t, p, tier, r, now)
		sameOwn(t, p, c.policy())
	}
}

// P18.1: policies that may be by chance, and the same with one number changed.
func TestChanceRight(t *testing.T) {
	c := chance{rand.New(rand.NewSource(81))}
	for range 100_000 {
		p := c.right()
		checkRight(t, p, true)
		l := numbers(p)
		i := c.Intn(api.Tiers)
		l[i] = c.number(l[i])
		sameOwn(t, of(l[0], l[1], l[2]), p)
	}
}
