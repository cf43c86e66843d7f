package policy_test

import (
	"math"
	"testing"

	"catacomb/api"
	"catacomb/policy"
)

const (
	maxTime  = api.MaxTime
	least    = math.MinInt64
	greatest = math.MaxInt64
)

// of is a policy of three numbers.
func of(raw, mid, long int64) api.Policy { return api.Policy{Raw: raw, Mid: mid, Long: long} }

// only is a policy by which just one tier isn't kept for ever.
func only(tier int, n int64) api.Policy {
	var l [api.Tiers]int64
	l[tier] = n
	return of(l[api.Raw], l[api.Mid], l[api.Long])
}

// upTo is a range of one tick that ends there; the least end has none.
func upTo(to int64) api.Range { return api.Range{From: max(to, least+1) - 1, To: to} }

func checkRight(t *testing.T, p api.Policy, want bool) {
	t.Helper()
	if policy.Right(p) != want {
		t.Errorf("Right(%v): %v", p, !want)
	}
}

func checkGone(t *testing.T, p api.Policy, tier int, r api.Range, now int64, want bool) {
	t.Helper()
	if policy.Gone(p, tier, r, now) != want {
		t.Errorf("Gone(%v, %d, %v, %d): %v", p, tier, r, now, !want)
	}
}

// checkBound looks at a bound, and at ranges that end around it.
func checkBound(t *testing.T, p api.Policy, tier int, now, want int64) {
	t.Helper()
	if got, ok := policy.Bound(p, tier, now); got != want || !ok {
		t.Errorf("Bound(%v, %d, %d): %d, %v, want %d", p, tier, now, got, ok, want)
	}
	checkGone(t, p, tier, upTo(want), now, true)
	checkGone(t, p, tier, upTo(want-1), now, true)
	checkGone(t, p, tier, upTo(want+1), now, false)
}

// checkNever looks at a bound that isn't there, and at ranges of all ends.
func checkNever(t *testing.T, p api.Policy, tier int, now int64) {
	t.Helper()
	if got, ok := policy.Bound(p, tier, now); got != 0 || ok {
		t.Errorf("Bound(%v, %d, %d): %d, %v, want none", p, tier, now, got, ok)
	}
	for _, to := range ends {
		checkGone(t, p, tier, upTo(to), now, false)
	}
}

func checkStricter(t *testing.T, a, b, want api.Policy) {
	t.Helper()
	if got := policy.Stricter(a, b); got != want {
		t.Errorf("Stricter(%v, %v): %v, want %v", a, b, got, want)
	}
	if got := policy.Stricter(b, a); got != want {
		t.Errorf("Stricter(%v, %v): %v, want %v", b, a, got, want)
	}
}

func checkText(t *testing.T, p api.Policy, want string) {
	t.Helper()
	if got := policy.Text(p); got != want {
		t.Errorf("Text(%v): %q, want %q", p, got, want)
	}
}

// P18.1: the chapter's example.
func TestExample(t *testing.T) {
	p := of(100, 0, 0)
	checkGone(t, p, api.Raw, api.Range{From: 0, To: 150}, 250, true)
	checkGone(t, p, api.Raw, api.Range{From: 0, To: 151}, 250, false)
	checkBound(t, p, api.Raw, 250, 150)
	checkNever(t, p, api.Mid, 250)
	checkNever(t, p, api.Long, 250)
}

// P18.1: Right of policies that may be.
func TestRight(t *testing.T) {
	for _, p := range []api.Policy{
		of(0, 0, 0),
		of(5, 0, 0), of(1, 0, 0), of(maxTime, 0, 0),
		of(5, 5, 0), of(5, 6, 0), of(1, maxTime, 0), of(maxTime, maxTime, 0),
		of(5, 5, 5), of(5, 5, 6), of(5, 6, 6), of(5, 6, 7), of(1, 1, 1), of(1, 2, 3),
		of(1, 1, maxTime), of(1, maxTime, maxTime), of(maxTime, maxTime, maxTime),
		of(100, 3600, 86400),
	} {
		checkRight(t, p, true)
	}
}

// P18.1: Right of policies that may not be: a wider tier has less than the narrower one, and 0 is more than any.
func TestRightFalls(t *testing.T) {
	for _, p := range []api.Policy{
		of(0, 5, 0), of(0, 0, 5), of(0, 5, 5), of(0, 5, 6), of(0, 6, 5),
		of(5, 0, 5), of(5, 0, 6), of(5, 0, 4), of(5, 0, maxTime), of(1, 0, 1),
		of(6, 5, 0), of(6, 5, 7), of(6, 5, 6), of(6, 5, 5), of(6, 5, 4), of(2, 1, 0), of(2, 1, 2),
		of(5, 5, 4), of(5, 6, 5), of(5, 7, 6), of(5, 6, 4), of(1, 2, 1),
		of(0, 1, 0), of(0, 0, 1), of(0, maxTime, 0), of(0, 0, maxTime), of(0, maxTime, maxTime),
		of(maxTime, maxTime-1, 0), of(maxTime, 1, maxTime), of(1, maxTime, maxTime-1), of(maxTime, 0, maxTime),
	} {
		checkRight(t, p, false)
	}
}

// P18.1: Right of numbers outside 0 to MaxTime, in each place, beside those that would go with them.
func TestRightOutside(t *testing.T) {
	for _, n := range []int64{-1, -2, -maxTime, least, least + 1, maxTime + 1, maxTime + 2, 1 << 41, greatest, greatest - 1} {
		for _, p := range []api.Policy{
			of(n, 0, 0), of(0, n, 0), of(0, 0, n), of(1, n, 0), of(1, 0, n), of(1, 1, n), of(1, maxTime, n),
			of(n, n, 0), of(0, n, n), of(n, 0, n), of(n, n, n), of(n, 1, 1), of(n, maxTime, maxTime), of(n, 1, 0),
			of(1, n, maxTime), of(1, n, n),
		} {
			checkRight(t, p, false)
		}
	}
}

// P18.1: Of each tier, and of what is no tier.
func TestOf(t *testing.T) {
	for _, p := range []api.Policy{of(10, 20, 30), of(0, 0, 0), of(-1, -2, -3), of(least, greatest, maxTime), of(3, 0, 1)} {
		for tier, want := range [api.Tiers]int64{p.Raw, p.Mid, p.Long} {
			if got := policy.Of(p, tier); got != want {
				t.Errorf("Of(%v, %d): %d, want %d", p, tier, got, want)
			}
		}
		for _, tier := range noTiers {
			if got := policy.Of(p, tier); got != 0 {
				t.Errorf("Of(%v, %d): %d, want 0", p, tier, got)
			}
		}
	}
}

// P18.1: Gone and Bound of ranges that end around now less the number, in each tier.
func TestGone(t *testing.T) {
	for tier := range api.Tiers {
		checkBound(t, only(tier, 100), tier, 250, 150)
		checkBound(t, only(tier, 1), tier, 1, 0)
		checkBound(t, only(tier, 1), tier, 2, 1)
		checkBound(t, only(tier, 100), tier, 100, 0)
		checkBound(t, only(tier, 100), tier, 101, 1)
		checkBound(t, only(tier, maxTime), tier, maxTime, 0)
		checkBound(t, only(tier, maxTime), tier, maxTime+1, 1)
		checkBound(t, only(tier, 1), tier, maxTime, maxTime-1)
		checkNever(t, only(tier, 100), tier, 99)
		checkNever(t, only(tier, 2), tier, 1)
		checkNever(t, only(tier, maxTime), tier, maxTime-1)
	}
}

// P18.1: by a number of 0 or below nothing is ever gone, be now what it may.
func TestGoneEver(t *testing.T) {
	for tier := range api.Tiers {
		for _, n := range []int64{0, -1, -2, -100, -maxTime, least, least + 1} {
			for _, now := range ends {
				checkNever(t, only(tier, n), tier, now)
			}
		}
	}
}

// P18.1: ahead of the number nothing is gone, nor at a now below 0.
func TestGoneAhead(t *testing.T) {
	for tier := range api.Tiers {
		for _, now := range []int64{0, -1, -2, -99, -100, -101, -250, -maxTime, least, least + 1, 1, 98, 99} {
			checkNever(t, only(tier, 100), tier, now)
		}
	}
}

// P18.1: of what is no tier nothing is gone.
func TestNoTier(t *testing.T) {
	for _, tier := range noTiers {
		for _, n := range []int64{0, 1, 100, maxTime, greatest, -1, least} {
			for _, now := range ends {
				checkNever(t, of(n, n, n), tier, now)
			}
		}
	}
}

// P18.1: where there are several numbers, each tier goes by its own.
func TestEachTier(t *testing.T) {
	p := of(10, 200, 3000)
	for tier, want := range [api.Tiers]int64{4990, 4800, 2000} {
		checkBound(t, p, tier, 5000, want)
	}
	checkBound(t, p, api.Raw, 10, 0)
	checkNever(t, p, api.Mid, 199)
	checkNever(t, p, api.Long, 2999)
	p = of(3000, 200, 10)
	for tier, want := range [api.Tiers]int64{2000, 4800, 4990} {
		checkBound(t, p, tier, 5000, want)
	}
}

// P18.1: just a range's end counts, be the range right or not.
func TestGoneRanges(t *testing.T) {
	p := of(100, 100, 100)
	for tier := range api.Tiers {
		for _, from := range ends {
			for _, to := range []int64{150, 149, 1, 0, -1, -150, -maxTime, least} {
				checkGone(t, p, tier, api.Range{From: from, To: to}, 250, true)
			}
			for _, to := range []int64{151, 152, 250, 251, maxTime, maxTime + 1, greatest} {
				checkGone(t, p, tier, api.Range{From: from, To: to}, 250, false)
			}
		}
	}
}

// P18.1: at the ends of an int64 nothing runs over.
func TestGoneEnds(t *testing.T) {
	for tier := range api.Tiers {
		checkBound(t, only(tier, 1), tier, greatest, greatest-1)
		checkBound(t, only(tier, 2), tier, greatest, greatest-2)
		checkBound(t, only(tier, maxTime), tier, greatest, greatest-maxTime)
		checkBound(t, only(tier, greatest), tier, greatest, 0)
		checkBound(t, only(tier, greatest-1), tier, greatest, 1)
		checkNever(t, only(tier, greatest), tier, greatest-1)
		checkNever(t, only(tier, greatest), tier, maxTime)
		for _, now := range []int64{least, least + 1, -maxTime, -2, -1, 0} {
			checkNever(t, only(tier, greatest), tier, now)
			checkNever(t, only(tier, 1), tier, now)
			checkNever(t, only(tier, maxTime), tier, now)
		}
		checkGone(t, only(tier, 1), tier, api.Range{From: greatest, To: least}, 1, true)
		checkGone(t, only(tier, 1), tier, api.Range{From: least, To: greatest}, greatest, false)
		checkGone(t, only(tier, greatest), tier, api.Range{From: least, To: least}, greatest, true)
	}
}

// P18.1: Stricter of two, either way round: the same ones, noughts, and numbers of each tier apart.
func TestStricter(t *testing.T) {
	for _, p := range []api.Policy{of(0, 0, 0), of(1, 2, 3), of(3, 2, 1), of(5, 0, 0), of(maxTime, maxTime, maxTime), of(-1, -2, -3), of(least, greatest, 0)} {
		checkStricter(t, p, p, p)
	}
	checkStricter(t, of(0, 0, 0), of(1, 2, 3), of(1, 2, 3))
	checkStricter(t, of(0, 0, 0), of(maxTime, maxTime, maxTime), of(maxTime, maxTime, maxTime))
	checkStricter(t, of(0, 0, 0), of(greatest, greatest, greatest), of(greatest, greatest, greatest))
	checkStricter(t, of(1, 0, 0), of(0, 2, 0), of(1, 2, 0))
	checkStricter(t, of(0, 2, 0), of(0, 0, 3), of(0, 2, 3))
	checkStricter(t, of(10, 100, 0), of(20, 50, 70), of(10, 50, 70))
	checkStricter(t, of(10, 50, 70), of(20, 100, 0), of(10, 50, 70))
	checkStricter(t, of(1, 5, 9), of(2, 4, 10), of(1, 4, 9))
	checkStricter(t, of(2, 4, 10), of(2, 5, 9), of(2, 4, 9))
	checkStricter(t, of(1, 1, 1), of(maxTime, maxTime, maxTime), of(1, 1, 1))
	checkStricter(t, of(greatest, maxTime, 1), of(greatest-1, maxTime+1, 0), of(greatest-1, maxTime, 1))
}

// P18.1, P18.2: of numbers below 0, by which nothing is gone, the lesser one, and 0 is more;
// but beside a number above 0 that one is the stricter one.
func TestStricterBelow(t *testing.T) {
	for _, n := range []int64{-1, -2, -100, -maxTime, least + 1, least} {
		for tier := range api.Tiers {
			checkStricter(t, only(tier, n), of(0, 0, 0), only(tier, n))
			checkStricter(t, only(tier, n), only(tier, n), only(tier, n))
			checkStricter(t, only(tier, n), only(tier, max(n, least+1)-1), only(tier, max(n, least+1)-1))
			for _, by := range []int64{1, 2, 100, maxTime, greatest} {
				checkStricter(t, only(tier, n), only(tier, by), only(tier, by))
			}
		}
	}
	checkStricter(t, of(-1, 5, -3), of(4, -2, -7), of(4, 5, -7))
}

// P18.1: Text of noughts, of one sign, of the longest numbers that may be, and of any.
func TestText(t *testing.T) {
	checkText(t, of(0, 0, 0), "raw=ever mid=ever long=ever")
	checkText(t, of(1, 2, 3), "raw=1 mid=2 long=3")
	checkText(t, of(9, 0, 0), "raw=9 mid=ever long=ever")
	checkText(t, of(0, 9, 0), "raw=ever mid=9 long=ever")
	checkText(t, of(0, 0, 9), "raw=ever mid=ever long=9")
	checkText(t, of(10, 100, 1000), "raw=10 mid=100 long=1000")
	checkText(t, of(maxTime, maxTime, maxTime), "raw=1099511627776 mid=1099511627776 long=1099511627776")
	checkText(t, of(maxTime-1, maxTime+1, 0), "raw=1099511627775 mid=1099511627777 long=ever")
	checkText(t, of(greatest, 0, 1), "raw=9223372036854775807 mid=ever long=1")
	checkText(t, of(-1, least, -10), "raw=-1 mid=-9223372036854775808 long=-10")
}

// noTiers are numbers that are no tier.
var noTiers = []int{-1, api.Tiers, api.Tiers + 1, -2, -3, 100, 256, 1 << 32, math.MaxInt, math.MinInt, math.MinInt + 1}

// ends are ticks at the ends of what there is.
var ends = []int64{least, least + 1, -maxTime, -250, -100, -2, -1, 0, 1, 2, 99, 100, 150, 250, maxTime - 1, maxTime, maxTime + 1, maxTime + 2, greatest - 1, greatest}
