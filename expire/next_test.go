package expire_test

import (
	"math/big"
	"testing"

	"catacomb/api"
	"catacomb/expire"
	"catacomb/policy"
	"catacomb/tier"
)

// next is the least tick at which something of plain lists is gone, by numbers of any width.
func (l lists) next(p api.Policy) (int64, bool) {
	var next *big.Int
	for i, kept := range numbers(p) {
		for _, end := range l.ends(i) {
			at := new(big.Int).Add(big.NewInt(end), big.NewInt(kept))
			if kept > 0 && at.IsInt64() && (next == nil || at.Cmp(next) < 0) {
				next = at
			}
		}
	}
	if next == nil {
		return 0, false
	}
	return next.Int64(), true
}

// someGone tells whether the policy has something of plain lists gone at a tick.
func (l lists) someGone(p api.Policy, now int64) bool {
	for i := range 3 {
		for _, end := range l.ends(i) {
			if policy.Gone(p, i, api.Range{From: end - widths[i], To: end}, now) {
				return true
			}
		}
	}
	return false
}

// checkNext holds Next against the plain lists; nothing changes by it.
func checkNext(t *testing.T, s *tier.Stock, l lists, p api.Policy) {
	t.Helper()
	want, some := l.next(p)
	for range 2 {
		if got, ok := expire.Next(s, p); got != want || ok != some {
			t.Fatalf("Next of %v by %v: %d, %v, want %d, %v", l, p, got, ok, want, some)
		}
	}
	if some && (!l.someGone(p, want) || l.someGone(p, want-1)) {
		t.Fatalf("at %d by %v %v, a tick ahead %v", want, p, l.someGone(p, want), l.someGone(p, want-1))
	}
	if !some && (l.someGone(p, maxTime) || l.someGone(p, greatest)) {
		t.Fatalf("by %v something is gone", p)
	}
	checkTold(t, "behind Next", s, l)
}

// wantNext is checkNext of what is known.
func wantNext(t *testing.T, l lists, p api.Policy, want int64, some bool) {
	t.Helper()
	checkNext(t, l.stock(t), l, p)
	if got, ok := l.next(p); got != want || ok != some {
		t.Fatalf("the plain lists tell %d, %v, want %d, %v", got, ok, want, some)
	}
}

// P19.1: Next of a nil stock: none.
func TestNextNil(t *testing.T) {
	for _, p := range append(wrongPolicies(), of(0, 0, 0), of(1, 1, 1), of(1, 0, 0), of(0, 0, 1), of(maxTime, maxTime, maxTime)) {
		if at, ok := expire.Next(nil, p); at != 0 || ok {
			t.Fatalf("Next of a nil stock: %d, %v", at, ok)
		}
	}
}

// P19.1: Next of a stock of nothing: none, be its marks what they may.
func TestNextEmpty(t *testing.T) {
	for _, l := range []lists{{}, {marks: [3]int64{0, 300, 0}}, {marks: [3]int64{0, 7200, 7200}}} {
		for _, p := range append(wrongPolicies(), of(0, 0, 0), of(1, 1, 1), of(1, 0, 0), of(maxTime, maxTime, maxTime)) {
			wantNext(t, l, p, 0, false)
		}
	}
	if at, ok := expire.Next(tier.New(), of(1, 1, 1)); at != 0 || ok {
		t.Fatalf("Next of a new stock: %d, %v", at, ok)
	}
}

// P19.1: Next by noughts alone: none.
func TestNextEver(t *testing.T) {
	for _, l := range []lists{usual(), {points: points(0)}, {points: points(maxTime)}, {aggs: usual().aggs, marks: usual().marks}} {
		wantNext(t, l, of(0, 0, 0), 0, false)
		wantNext(t, l, of(-1, 0, -5), 0, false)
		wantNext(t, l, of(least, least, least), 0, false)
	}
}

// P19.1: Next by a number of one tier alone goes by what that tier has.
func TestNextOneTier(t *testing.T) {
	for i, width := range widths {
		for _, kept := range []int64{1, 2, 299, 300, 3600, 100_000, maxTime} {
			var l [3]int64
			l[i] = kept
			p := of(l[0], l[1], l[2])
			wantNext(t, usual(), p, width+kept, true)
			// Without what that tier has there is none.
			rest := usual()
			if i == 0 {
				rest.points = nil
			} else {
				rest.aggs[i] = nil
			}
			wantNext(t, rest, p, 0, false)
		}
	}
}

// P19.1: Next is the least one of each tier in turn.
func TestNextTurns(t *testing.T) {
	l := lists{points: points(5000, 6000), aggs: [3][]api.Agg{nil, aggs(3600, 3900), aggs(3600)}, marks: [3]int64{0, 7200, 7200}}
	for _, row := range []struct {
		p    api.Policy
		want int64
	}{
		{of(100, 2000, 3000), 5101},
		{of(100, 1200, 3000), 5100},
		{of(100, 1201, 3000), 5101},
		{of(100, 1202, 3000), 5101},
		{of(100, 100, 100), 4000},
		{of(3000, 3000, 3000), 6900},
		{of(2000, 4000, 3000), 7001}, // a policy that may not be
		{of(3000, 4000, 500), 7700},
		{of(0, 0, 1), 7201},
		{of(0, 4000, 1), 7201},
		{of(10_000, 4000, 700), 7900},
		{of(10_000, 4000, 701), 7900},
		{of(10_000, 4000, 699), 7899},
	} {
		wantNext(t, l, row.p, row.want, true)
	}
}

// P19.1: the least one of a tier counts, not the last one, nor one between.
func TestNextLeast(t *testing.T) {
	for from := int64(0); from <= 6*long; from += long {
		l := lists{points: points(from+7, from+8, from+5000), aggs: [3][]api.Agg{nil, aggs(from, from+mid, from+long), aggs(from, from+long, from+3*long)}, marks: [3]int64{0, 20 * long, 20 * long}}
		wantNext(t, l, of(10, 0, 0), from+18, true)
		wantNext(t, l, of(0, 10, 0), from+mid+10, true)
		wantNext(t, l, of(0, 0, 10), from+long+10, true)
		wantNext(t, l, of(10, 10, 10), from+18, true)
		wantNext(t, l, of(1000, 10, 10), from+mid+10, true)
		wantNext(t, l, of(9000, 9000, 10), from+long+10, true)
	}
}

// P19.1: Next tells of what may not go yet, too: what isn't rolled, and what is held.
func TestNextMayNot(t *testing.T) {
	wantNext(t, lists{points: points(10, 20)}, of(100, 0, 0), 111, true)
	wantNext(t, lists{points: points(10, 20), marks: [3]int64{0, 300, 0}}, of(100, 0, 0), 111, true)
	wantNext(t, lists{points: points(300), aggs: [3][]api.Agg{nil, aggs(0), nil}, marks: [3]int64{0, 300, 0}}, of(100, 100, 0), 400, true)
	wantNext(t, lists{points: points(298), aggs: [3][]api.Agg{nil, aggs(0), nil}, marks: [3]int64{0, 300, 0}}, of(100, 100, 0), 399, true)
	s, h := usual().stock(t), table(t, []api.Hold{held("cpu", 0, maxTime+1)})
	expire.Series(s, "cpu", h, of(1, 1, 1), maxTime)
	if at, ok := expire.Next(s, of(1, 1, 1)); at != 2 || !ok {
		t.Fatalf("Next of what is held: %d, %v", at, ok)
	}
	// Behind Series without holds just what isn't rolled is left.
	expire.Series(s, "mem", h, of(1, 1, 1), maxTime)
	if at, ok := expire.Next(s, of(1, 1, 1)); at != 7202 || !ok {
		t.Fatalf("Next of what isn't rolled: %d, %v", at, ok)
	}
}

// P19.1: Next of what is gone later than MaxTime, and of what there is no number for.
func TestNextEnds(t *testing.T) {
	l := lists{points: points(10, maxTime), aggs: [3][]api.Agg{nil, aggs(0, 1_099_511_631_000), aggs(0, 1_099_511_625_600)}, marks: [3]int64{0, 1_099_511_631_300, 1_099_511_629_200}}
	wantNext(t, l, of(maxTime, maxTime, maxTime), maxTime+11, true)
	wantNext(t, l, of(0, maxTime, maxTime), maxTime+300, true)
	wantNext(t, l, of(0, 0, maxTime), maxTime+3600, true)
	wantNext(t, l, of(greatest-11, 0, 0), greatest, true)
	wantNext(t, l, of(greatest-10, 0, 0), 0, false)
	wantNext(t, l, of(greatest, greatest, greatest), 0, false)
	wantNext(t, l, of(0, greatest-300, 0), greatest, true)
	wantNext(t, l, of(0, greatest-299, 0), 0, false)
	wantNext(t, l, of(0, 0, greatest-3600), greatest, true)
	wantNext(t, l, of(0, 0, greatest-3599), 0, false)
	wantNext(t, l, of(greatest, greatest-300, greatest), greatest, true)
	wantNext(t, l, of(greatest, greatest, 5), 3605, true)
	wantNext(t, l, of(greatest, least, greatest-3599), 0, false)
	last := lists{points: points(maxTime), aggs: [3][]api.Agg{nil, aggs(1_099_511_631_000), nil}, marks: [3]int64{0, 1_099_511_631_300, 0}}
	wantNext(t, last, of(1, 0, 0), maxTime+2, true)
	wantNext(t, last, of(0, 1, 0), 1_099_511_631_301, true)
	wantNext(t, last, of(5000, 1, 0), 1_099_511_631_301, true)
	last = lists{aggs: [3][]api.Agg{nil, nil, aggs(1_099_511_625_600)}, marks: [3]int64{0, 1_099_511_629_200, 1_099_511_629_200}}
	wantNext(t, last, of(0, 0, 1), 1_099_511_629_201, true)
}

// P19.1: Next by policies that may not be goes by their numbers.
func TestNextWrongPolicy(t *testing.T) {
	for _, p := range wrongPolicies() {
		l := usual()
		checkNext(t, l.stock(t), l, p)
	}
	wantNext(t, usual(), of(6, 5, 0), 7, true)
	wantNext(t, usual(), of(0, 5, 0), 305, true)
	wantNext(t, usual(), of(0, 0, 5), 3605, true)
	wantNext(t, usual(), of(-1, 5, 0), 305, true)
	wantNext(t, usual(), of(-1, -1, 5), 3605, true)
	wantNext(t, usual(), of(maxTime+1, 0, 0), maxTime+2, true)
	wantNext(t, usual(), of(5000, 4000, 1), 3601, true)
	wantNext(t, usual(), of(-5, -5, -5), 0, false)
}

// P19.1: a full stock's Next.
func TestNextFull(t *testing.T) {
	l := lists{points: points(row(most, 100*long, 1)...), aggs: [3][]api.Agg{nil, aggs(row(most, 50*long, mid)...), aggs(row(most, 40*long, long)...)}, marks: [3]int64{0, 400 * long, 400 * long}}
	wantNext(t, l, of(5, 0, 0), 360_006, true)
	wantNext(t, l, of(5, 180_000, 0), 360_006, true)
	wantNext(t, l, of(5, 179_700, 0), 360_000, true)
	wantNext(t, l, of(5, 200_000, 212_405), 360_005, true)
	wantNext(t, l, of(0, 0, 1), 147_601, true)
}
