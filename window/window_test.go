package window

import (
	"iter"
	"math"
	"math/big"
	"math/rand"
	"slices"
	"testing"

	"catacomb/api"
)

const (
	least    = math.MinInt64
	greatest = math.MaxInt64
	maxTime  = 1099511627776 // 2 to the power of 40
)

// The chapter's widths, by its tiers.
var ofTier = map[int]int64{0: 1, 1: 300, 2: 3600}

// noTiers are numbers of no tier.
func noTiers() []int {
	return []int{-1, -2, -3, -300, 3, 4, 5, 7, 255, 256, 257, 258, 300, 3600, 65536, 65537, 65538, 1 << 32, 1<<32 + 1, 1<<32 + 2, -1<<32 + 1, math.MinInt, math.MinInt + 1, math.MinInt + 2, math.MaxInt, math.MaxInt - 1}
}

// ticks are those at and beside the edges of windows, from 0 on to the greatest one.
func ticks() []int64 {
	l := []int64{0, 1, 2, 7, 10, 149, 700, 1000, 1799, 12345, 1 << 31, 1 << 32, 1 << 62}
	for _, near := range []int64{300, 600, 900, 3300, 3600, 3900, 7200, 86400, 300 * 12345, 3600 * 12345, maxTime, maxTime - maxTime%300, maxTime - maxTime%3600, maxTime - maxTime%3600 + 3600, 1 << 53, greatest - greatest%300, greatest - greatest%3600, greatest - 3600} {
		l = append(l, near-2, near-1, near, near+1, near+2)
	}
	return append(l, greatest-2, greatest-1, greatest)
}

// below are numbers below 0, which are no ticks of a window.
func below() []int64 {
	return []int64{-1, -2, -299, -300, -301, -3599, -3600, -3601, -700, -maxTime, least, least + 1, least + 300, least + 3600}
}

// small are all ranges of ends from..to, those without ticks among them.
func small(from, to int64) []api.Range {
	var l []api.Range
	for a := from; a <= to; a++ {
		for b := from; b <= to; b++ {
			l = append(l, api.Range{From: a, To: b})
		}
	}
	return l
}

// ends are numbers at the ends of what a range may have, and of int64.
func ends() []int64 {
	return []int64{least, least + 1, -maxTime, -300, -1, 0, 1, 2, 299, 300, 301, 3600, maxTime - 1, maxTime, maxTime + 1, maxTime + 2, greatest - 1, greatest}
}

// great are all ranges of these ends.
func great() []api.Range {
	var l []api.Range
	for _, a := range ends() {
		for _, b := range ends() {
			l = append(l, api.Range{From: a, To: b})
		}
	}
	return l
}

// wrong are ranges that aren't right.
func wrong() []api.Range {
	return []api.Range{
		{}, {From: 1, To: 1}, {From: 1, To: 0}, {From: 10, To: 3}, {From: 300, To: 300}, {From: 600, To: 300}, {From: 7200, To: 3600}, {From: 301, To: 299},
		{From: -1, To: 0}, {From: -1, To: 1}, {From: -1, To: 300}, {From: -300, To: 300}, {From: -3600, To: 7200}, {From: -300, To: -1}, {From: -5, To: -5}, {From: 0, To: -1}, {From: 300, To: -300},
		{From: 0, To: maxTime + 2}, {From: maxTime, To: maxTime + 2}, {From: maxTime + 1, To: maxTime + 1}, {From: maxTime + 1, To: maxTime + 2}, {From: 300, To: maxTime + 300}, {From: 0, To: greatest}, {From: maxTime + 1, To: greatest}, {From: greatest, To: greatest},
		{From: least, To: greatest}, {From: least, To: 0}, {From: least, To: 300}, {From: least, To: least}, {From: least, To: least + 300}, {From: greatest, To: least}, {From: 0, To: least}, {From: greatest, To: 0}, {From: maxTime, To: 0}, {From: -1, To: maxTime + 2},
	}
}

// whole is a number that has no bounds.
func whole(n int64) *big.Int { return big.NewInt(n) }

// startOf and endOf are where the window of a tick from 0 on begins and ends, by numbers without bounds.
func startOf(width, at int64) *big.Int {
	n := new(big.Int).Div(whole(at), whole(width))
	return n.Mul(n, whole(width))
}

func endOf(width, at int64) *big.Int {
	return new(big.Int).Add(startOf(width, at), whole(width))
}

// told is a number, or the greatest one if it is beyond that.
func told(n *big.Int) int64 {
	if n.IsInt64() {
		return n.Int64()
	}
	return greatest
}

func checkOf(t *testing.T, tier int, at int64, want api.Range) {
	t.Helper()
	if got := Start(tier, at); got != want.From {
		t.Fatalf("Start(%d, %d): %d, want %d", tier, at, got, want.From)
	}
	if got := Of(tier, at); got != want {
		t.Fatalf("Of(%d, %d): %v, want %v", tier, at, got, want)
	}
}

func checkClosed(t *testing.T, tier int, at, now int64, want bool) {
	t.Helper()
	if got := Closed(tier, at, now); got != want {
		t.Fatalf("Closed(%d, %d, %d): %v", tier, at, now, got)
	}
}

func checkRight(t *testing.T, from, to int64, want bool) {
	t.Helper()
	if got := Right(api.Range{From: from, To: to}); got != want {
		t.Fatalf("Right of %d to %d: %v", from, to, got)
	}
}

func checkIn(t *testing.T, r api.Range, at int64, want bool) {
	t.Helper()
	if got := In(r, at); got != want {
		t.Fatalf("In(%v, %d): %v", r, at, got)
	}
}

// checkBoth holds the ticks in common (nothing: none), both ways round, and Meets with it.
func checkBoth(t *testing.T, a, b, want api.Range) {
	t.Helper()
	for range 2 {
		got, ok := Both(a, b)
		if got != want || ok != (want != api.Range{}) {
			t.Fatalf("Both(%v, %v): %v, %v, want %v", a, b, got, ok, want)
		}
		if got := Meets(a, b); got != ok {
			t.Fatalf("Meets(%v, %v): %v", a, b, got)
		}
		a, b = b, a
	}
}

func checkCut(t *testing.T, r, by api.Range, want ...api.Range) {
	t.Helper()
	if got := Cut(r, by); !slices.Equal(got, want) {
		t.Fatalf("Cut of %v by %v: %v, want %v", r, by, got, want)
	}
}

// checkCover holds Cover, and that the windows that are told one by one fill it, without gaps, as far as they are gone through.
func checkCover(t *testing.T, tier int, r, want api.Range) {
	t.Helper()
	if got := Cover(tier, r); got != want {
		t.Fatalf("Cover(%d, %v): %v, want %v", tier, r, got, want)
	}
	n, at := 0, want.From
	for w := range Each(tier, r) {
		if w.From != at || w.To != at+ofTier[tier] || w.To > want.To {
			t.Fatalf("Each(%d, %v): %v behind the tick %d, want up to %v", tier, r, w, at, want)
		}
		at = w.To
		if n++; n == 2000 {
			return
		}
	}
	if at != want.To {
		t.Fatalf("Each(%d, %v): up to %d, want %v", tier, r, at, want)
	}
}

func checkEach(t *testing.T, tier int, r api.Range, want ...api.Range) {
	t.Helper()
	// One more is let come, so that a row without end fails, too.
	if got := firsts(t, Each(tier, r), len(want)+1); !slices.Equal(got, want) {
		t.Fatalf("Each(%d, %v): %v, want %v", tier, r, got, want)
	}
}

// P13.1, P13.2
func TestExample(t *testing.T) {
	checkOf(t, api.Mid, 700, api.Range{From: 600, To: 900})
	checkCut(t, api.Range{From: 0, To: 9}, api.Range{From: 3, To: 5}, api.Range{From: 0, To: 3}, api.Range{From: 5, To: 9})
}

// P13.1: the widths, by the tiers' names and by their numbers.
func TestWidth(t *testing.T) {
	if Width(api.Raw) != 1 || Width(api.Mid) != 300 || Width(api.Long) != 3600 {
		t.Fatalf("widths: %d, %d, %d", Width(api.Raw), Width(api.Mid), Width(api.Long))
	}
	for tier := -70000; tier <= 70000; tier++ {
		if got := Width(tier); got != ofTier[tier] {
			t.Fatalf("Width(%d): %d", tier, got)
		}
	}
	for _, tier := range noTiers() {
		if got := Width(tier); got != 0 {
			t.Fatalf("Width(%d): %d", tier, got)
		}
	}
	if Width(api.Tiers) != 0 {
		t.Fatalf("Width(Tiers): %d", Width(api.Tiers))
	}
}

// P13.1: windows as they are written by hand.
func TestOfKnown(t *testing.T) {
	for _, x := range []struct {
		tier     int
		at       int64
		from, to int64
	}{
		{api.Raw, 0, 0, 1}, {api.Raw, 1, 1, 2}, {api.Raw, 299, 299, 300}, {api.Raw, 300, 300, 301},
		{api.Mid, 0, 0, 300}, {api.Mid, 1, 0, 300}, {api.Mid, 298, 0, 300}, {api.Mid, 299, 0, 300},
		{api.Mid, 300, 300, 600}, {api.Mid, 301, 300, 600}, {api.Mid, 599, 300, 600}, {api.Mid, 600, 600, 900},
		{api.Mid, 3599, 3300, 3600}, {api.Mid, 3600, 3600, 3900},
		{api.Long, 0, 0, 3600}, {api.Long, 1, 0, 3600}, {api.Long, 300, 0, 3600}, {api.Long, 3599, 0, 3600},
		{api.Long, 3600, 3600, 7200}, {api.Long, 3601, 3600, 7200}, {api.Long, 7199, 3600, 7200}, {api.Long, 7200, 7200, 10800},
		{api.Raw, maxTime, 1099511627776, 1099511627777},
		{api.Mid, maxTime, 1099511627700, 1099511628000},
		{api.Long, maxTime, 1099511625600, 1099511629200},
		// The last windows whose ends are numbers, and those behind them.
		{api.Raw, greatest - 1, 9223372036854775806, 9223372036854775807},
		{api.Raw, greatest, 9223372036854775807, 9223372036854775807},
		{api.Mid, 9223372036854775499, 9223372036854775200, 9223372036854775500},
		{api.Mid, 9223372036854775500, 9223372036854775500, 9223372036854775800},
		{api.Mid, 9223372036854775799, 9223372036854775500, 9223372036854775800},
		{api.Mid, 9223372036854775800, 9223372036854775800, 9223372036854775807},
		{api.Mid, greatest, 9223372036854775800, 9223372036854775807},
		{api.Long, 9223372036854774000 - 1, 9223372036854770400, 9223372036854774000},
		{api.Long, 9223372036854774000, 9223372036854774000, 9223372036854775807},
		{api.Long, greatest, 9223372036854774000, 9223372036854775807},
	} {
		checkOf(t, x.tier, x.at, api.Range{From: x.from, To: x.to})
	}
}

// P13.1: tick by tick, a window ends where the next one begins.
func TestOfAllTicks(t *testing.T) {
	for tier, width := range ofTier {
		w := api.Range{From: 0, To: width}
		for at := range int64(50000) {
			if at == w.To {
				w = api.Range{From: at, To: at + width}
			}
			checkOf(t, tier, at, w)
		}
	}
}

// P13.1: great ticks, and those at the edges of windows, by numbers without bounds.
func TestOfGreatTicks(t *testing.T) {
	for tier, width := range ofTier {
		for _, at := range ticks() {
			checkOf(t, tier, at, api.Range{From: told(startOf(width, at)), To: told(endOf(width, at))})
		}
	}
}

// P13.1: no window has a tick below 0, nor has no tier one.
func TestOfNothing(t *testing.T) {
	for tier := range ofTier {
		for _, at := range below() {
			checkOf(t, tier, at, api.Range{})
		}
		for at := int64(-8000); at < 0; at++ {
			checkOf(t, tier, at, api.Range{})
		}
	}
	for _, tier := range noTiers() {
		for _, at := range append(ticks(), below()...) {
			checkOf(t, tier, at, api.Range{})
		}
	}
}

// P13.1: a window has its tick, and each tick of it has that window.
func TestAWindowHasItsTicks(t *testing.T) {
	for tier, width := range ofTier {
		for _, at := range ticks() {
			w := Of(tier, at)
			// The greatest number is in no range, since none ends behind it.
			checkIn(t, w, at, at < greatest)
			if w.From%width != 0 || w.From != Start(tier, at) {
				t.Fatalf("Of(%d, %d): %v", tier, at, w)
			}
			for in := w.From; in < w.To; in++ {
				checkOf(t, tier, in, w)
			}
			checkIn(t, w, w.From-1, false)
			checkIn(t, w, w.To, false)
		}
	}
}

// P13.1: each Long window is twelve Mid windows, each of those 300 of Raw.
func TestWindowsLieInWiderOnes(t *testing.T) {
	for _, at := range ticks() {
		raw, mid, long := Of(api.Raw, at), Of(api.Mid, at), Of(api.Long, at)
		if raw.From < mid.From || raw.To > mid.To || mid.From < long.From || mid.To > long.To {
			t.Fatalf("%d: %v, %v, %v", at, raw, mid, long)
		}
		if Start(api.Long, mid.From) != long.From || Start(api.Mid, long.From) != long.From {
			t.Fatalf("%d: %v begins in another one than %v", at, mid, long)
		}
		if long.To > maxTime+1 {
			continue
		}
		if got := slices.Collect(Each(api.Mid, long)); len(got) != 12 || got[0].From != long.From || got[11].To != long.To || !slices.Contains(got, mid) {
			t.Fatalf("%d: %v has %v", at, long, got)
		}
		if got := slices.Collect(Each(api.Raw, mid)); len(got) != 300 || !slices.Contains(got, raw) {
			t.Fatalf("%d: %v has %v", at, mid, got)
		}
	}
}

// P13.1: a window that ends a tick ahead of now, at now, and a tick behind it.
func TestClosedKnown(t *testing.T) {
	for _, x := range []struct {
		tier    int
		at, now int64
		want    bool
	}{
		{api.Raw, 0, 0, false}, {api.Raw, 0, 1, true}, {api.Raw, 0, 2, true}, {api.Raw, 0, -1, false},
		{api.Raw, 300, 299, false}, {api.Raw, 300, 300, false}, {api.Raw, 300, 301, true},
		{api.Mid, 0, 0, false}, {api.Mid, 0, 299, false}, {api.Mid, 0, 300, true}, {api.Mid, 0, 301, true},
		{api.Mid, 299, 299, false}, {api.Mid, 299, 300, true}, {api.Mid, 299, 301, true}, {api.Mid, 299, 0, false},
		{api.Mid, 300, 300, false}, {api.Mid, 300, 599, false}, {api.Mid, 300, 600, true}, {api.Mid, 300, 601, true},
		{api.Mid, 599, 600, true}, {api.Mid, 600, 600, false}, {api.Mid, 600, 899, false}, {api.Mid, 600, 900, true},
		{api.Long, 0, 3599, false}, {api.Long, 0, 3600, true}, {api.Long, 0, 3601, true}, {api.Long, 0, 300, false},
		{api.Long, 3599, 3599, false}, {api.Long, 3599, 3600, true}, {api.Long, 3600, 7199, false}, {api.Long, 3600, 7200, true},
		{api.Raw, maxTime, maxTime, false}, {api.Raw, maxTime, maxTime + 1, true},
		{api.Mid, maxTime, maxTime, false}, {api.Mid, maxTime, 1099511627999, false}, {api.Mid, maxTime, 1099511628000, true},
		{api.Long, maxTime, 1099511629199, false}, {api.Long, maxTime, 1099511629200, true},
		{api.Mid, -1, 300, false}, {api.Mid, -1, greatest, false}, {api.Mid, -300, 0, false}, {api.Mid, -600, -300, false}, {api.Raw, -1, 0, false}, {api.Long, -3600, 0, false}, {api.Long, least, greatest, false}, {api.Raw, least, least + 1, false},
		{3, 0, 1, false}, {3, 0, 9, false}, {-1, 0, 1, false}, {-1, 0, 0, false}, {7, 0, greatest, false}, {3, greatest, greatest, false}, {3, -1, 0, false},
		{api.Mid, 0, greatest, true}, {api.Mid, 0, least, false}, {api.Long, 0, least, false}, {api.Long, 0, least + 3600, false}, {api.Raw, 0, least, false}, {api.Raw, greatest, least, false},
		// A window that ends behind the greatest number never does.
		{api.Raw, greatest, greatest, false}, {api.Raw, greatest - 1, greatest, true},
		{api.Mid, greatest, greatest, false}, {api.Mid, 9223372036854775800, greatest, false}, {api.Mid, 9223372036854775799, greatest, true}, {api.Mid, 9223372036854775799, 9223372036854775799, false}, {api.Mid, 9223372036854775799, 9223372036854775800, true},
		{api.Long, greatest, greatest, false}, {api.Long, 9223372036854774000, greatest, false}, {api.Long, 9223372036854773999, greatest, true},
	} {
		checkClosed(t, x.tier, x.at, x.now, x.want)
	}
}

// P13.1: all ticks, around the ends of their windows and at numbers' ends, by numbers without bounds.
func TestClosed(t *testing.T) {
	for tier, width := range ofTier {
		for _, at := range ticks() {
			end := endOf(width, at)
			nows := append(append(ticks(), below()...), at-1, at, told(end)-2, told(end)-1, told(end))
			if end.IsInt64() && end.Int64() < greatest {
				nows = append(nows, end.Int64()+1)
			}
			for _, now := range nows {
				checkClosed(t, tier, at, now, end.Cmp(whole(now)) <= 0)
			}
		}
	}
	for _, now := range append(ticks(), below()...) {
		for _, at := range below() {
			for tier := range ofTier {
				checkClosed(t, tier, at, now, false)
			}
		}
		for _, tier := range noTiers() {
			for _, at := range append(ticks(), below()...) {
				checkClosed(t, tier, at, now, false)
			}
		}
	}
}

// P13.1: the edges of what may be.
func TestRightKnown(t *testing.T) {
	if api.MaxTime != maxTime {
		t.Fatalf("MaxTime is %d", int64(api.MaxTime))
	}
	for _, x := range []struct {
		from, to int64
		want     bool
	}{
		{0, 1, true}, {0, 2, true}, {1, 2, true}, {299, 601, true}, {0, 3600, true}, {7, 8, true},
		{0, maxTime - 1, true}, {0, maxTime, true}, {0, maxTime + 1, true}, {0, maxTime + 2, false}, {0, maxTime + 3, false},
		{maxTime - 1, maxTime, true}, {maxTime - 1, maxTime + 1, true}, {maxTime, maxTime + 1, true}, {maxTime, maxTime, false}, {maxTime, maxTime + 2, false}, {maxTime + 1, maxTime + 1, false}, {maxTime + 1, maxTime + 2, false}, {maxTime + 1, maxTime, false},
		{-1, 0, false}, {-1, 1, false}, {-1, maxTime, false}, {-1, maxTime + 1, false}, {-2, -1, false}, {-300, 300, false}, {0, 0, false}, {0, -1, false}, {-1, -1, false},
		{1, 1, false}, {1, 0, false}, {2, 1, false}, {300, 300, false}, {301, 300, false}, {600, 300, false},
		{least, greatest, false}, {least, 1, false}, {least, least, false}, {least, least + 1, false}, {0, greatest, false}, {0, least, false}, {greatest, least, false}, {greatest, greatest, false}, {greatest - 1, greatest, false}, {greatest, 1, false}, {1, least, false}, {maxTime, least, false},
	} {
		checkRight(t, x.from, x.to, x.want)
	}
	for _, r := range wrong() {
		checkRight(t, r.From, r.To, false)
	}
}

// P13.1: all ranges around 0, and of all ends, by numbers without bounds.
func TestRight(t *testing.T) {
	most := new(big.Int).Add(new(big.Int).Lsh(whole(1), 40), whole(1))
	for _, r := range append(small(-20, 20), great()...) {
		want := whole(0).Cmp(whole(r.From)) <= 0 && whole(r.From).Cmp(whole(r.To)) < 0 && whole(r.To).Cmp(most) <= 0
		checkRight(t, r.From, r.To, want)
	}
}

// P13.1: at both ends of ranges, and one beside each.
func TestInKnown(t *testing.T) {
	r := api.Range{From: 10, To: 20}
	for at := int64(-20); at < 40; at++ {
		checkIn(t, r, at, at >= 10 && at <= 19)
	}
	for _, x := range []struct {
		from, to, at int64
		want         bool
	}{
		{5, 6, 4, false}, {5, 6, 5, true}, {5, 6, 6, false},
		{5, 5, 4, false}, {5, 5, 5, false}, {5, 5, 6, false},
		{7, 3, 2, false}, {7, 3, 3, false}, {7, 3, 5, false}, {7, 3, 7, false}, {7, 3, 8, false},
		{0, maxTime + 1, maxTime, true}, {0, maxTime + 1, maxTime + 1, false}, {0, maxTime + 1, -1, false}, {0, 1, 0, true},
		{-5, 5, -6, false}, {-5, 5, -5, true}, {-5, 5, 0, true}, {-5, -2, -2, false}, {-5, -2, -3, true},
		{least, greatest, least, true}, {least, greatest, 0, true}, {least, greatest, greatest - 1, true}, {least, greatest, greatest, false},
		{greatest, least, 0, false}, {greatest, least, least, false}, {greatest, least, greatest, false}, {0, least, greatest, false}, {0, greatest, least, false},
		{maxTime + 5, maxTime + 9, maxTime + 5, true}, {maxTime + 5, maxTime + 9, maxTime + 9, false}, {0, 0, 0, false},
	} {
		checkIn(t, api.Range{From: x.from, To: x.to}, x.at, x.want)
	}
}

// P13.1: all ends and ticks, by numbers without bounds.
func TestIn(t *testing.T) {
	for _, r := range append(small(-4, 4), great()...) {
		for _, at := range append(ends(), -5, -4, -3, -2, 3, 4, 5) {
			checkIn(t, r, at, whole(r.From).Cmp(whole(at)) <= 0 && whole(at).Cmp(whole(r.To)) < 0)
		}
	}
}

// P13.1: ranges apart, that touch, that overlap, one in the other, the same one, and those without ticks.
func TestBothKnown(t *testing.T) {
	for _, x := range []struct{ a, b, want api.Range }{
		{api.Range{From: 0, To: 3}, api.Range{From: 6, To: 9}, api.Range{}},
		{api.Range{From: 0, To: 4}, api.Range{From: 5, To: 9}, api.Range{}},
		{api.Range{From: 0, To: 5}, api.Range{From: 5, To: 9}, api.Range{}},
		{api.Range{From: 0, To: 6}, api.Range{From: 5, To: 9}, api.Range{From: 5, To: 6}},
		{api.Range{From: 0, To: 1}, api.Range{From: 0, To: 9}, api.Range{From: 0, To: 1}},
		{api.Range{From: 0, To: 7}, api.Range{From: 5, To: 9}, api.Range{From: 5, To: 7}},
		{api.Range{From: 0, To: 9}, api.Range{From: 3, To: 5}, api.Range{From: 3, To: 5}},
		{api.Range{From: 0, To: 9}, api.Range{From: 0, To: 5}, api.Range{From: 0, To: 5}},
		{api.Range{From: 0, To: 9}, api.Range{From: 5, To: 9}, api.Range{From: 5, To: 9}},
		{api.Range{From: 0, To: 9}, api.Range{From: 8, To: 9}, api.Range{From: 8, To: 9}},
		{api.Range{From: 0, To: 9}, api.Range{From: 0, To: 9}, api.Range{From: 0, To: 9}},
		{api.Range{From: 4, To: 5}, api.Range{From: 4, To: 5}, api.Range{From: 4, To: 5}},
		{api.Range{From: 0, To: 9}, api.Range{}, api.Range{}},
		{api.Range{From: 0, To: 9}, api.Range{From: 5, To: 5}, api.Range{}},
		{api.Range{From: 0, To: 9}, api.Range{From: 9, To: 9}, api.Range{}},
		{api.Range{From: 0, To: 9}, api.Range{From: 7, To: 3}, api.Range{}},
		{api.Range{From: 0, To: 9}, api.Range{From: 20, To: -20}, api.Range{}},
		{api.Range{From: 5, To: 5}, api.Range{From: 5, To: 5}, api.Range{}},
		{api.Range{From: 7, To: 3}, api.Range{From: 7, To: 3}, api.Range{}},
		{api.Range{From: 7, To: 3}, api.Range{From: 4, To: 4}, api.Range{}},
		{api.Range{}, api.Range{}, api.Range{}},
		{api.Range{From: 0, To: maxTime + 1}, api.Range{From: maxTime, To: maxTime + 1}, api.Range{From: maxTime, To: maxTime + 1}},
		{api.Range{From: -9, To: 5}, api.Range{From: -3, To: 9}, api.Range{From: -3, To: 5}},
		{api.Range{From: -9, To: -5}, api.Range{From: -6, To: maxTime * 4}, api.Range{From: -6, To: -5}},
		{api.Range{From: -1, To: 1}, api.Range{From: 0, To: 9}, api.Range{From: 0, To: 1}},
		{api.Range{From: least, To: greatest}, api.Range{From: 3, To: 5}, api.Range{From: 3, To: 5}},
		{api.Range{From: least, To: greatest}, api.Range{From: least, To: greatest}, api.Range{From: least, To: greatest}},
		{api.Range{From: least, To: 0}, api.Range{From: 0, To: greatest}, api.Range{}},
		{api.Range{From: least, To: 0}, api.Range{From: -1, To: greatest}, api.Range{From: -1, To: 0}},
		{api.Range{From: greatest, To: least}, api.Range{From: least, To: greatest}, api.Range{}},
		{api.Range{From: least, To: least + 1}, api.Range{From: least, To: greatest}, api.Range{From: least, To: least + 1}},
		{api.Range{From: greatest - 1, To: greatest}, api.Range{From: 0, To: greatest}, api.Range{From: greatest - 1, To: greatest}},
	} {
		checkBoth(t, x.a, x.b, x.want)
	}
}

// rows are the ticks of -10 to 10 that a test picks, as ranges, each as wide as may be.
func rows(has func(at int64) bool) []api.Range {
	var l []api.Range
	for at := int64(-10); at <= 10; at++ {
		switch {
		case !has(at):
		case len(l) > 0 && l[len(l)-1].To == at:
			l[len(l)-1].To++
		default:
			l = append(l, api.Range{From: at, To: at + 1})
		}
	}
	return l
}

// P13.1, P13.2: all pairs of small ranges, tick by tick.
func TestBothAndCutOfAllSmall(t *testing.T) {
	all := small(-4, 5)
	for _, a := range all {
		for _, b := range all {
			inA := func(at int64) bool { return a.From <= at && at < a.To }
			inB := func(at int64) bool { return b.From <= at && at < b.To }
			common := rows(func(at int64) bool { return inA(at) && inB(at) })
			if len(common) == 0 {
				checkBoth(t, a, b, api.Range{})
			} else if got, ok := Both(a, b); !ok || !slices.Equal([]api.Range{got}, common) || !Meets(a, b) {
				t.Fatalf("Both(%v, %v): %v, %v, want %v", a, b, got, ok, common)
			}
			checkCut(t, a, b, rows(func(at int64) bool { return inA(at) && !inB(at) })...)
		}
	}
}

// checkTogether holds that a range is what Both and Cut tell of it together, each tick once and in order.
func checkTogether(t *testing.T, r, by api.Range) {
	t.Helper()
	l := Cut(r, by)
	if both, ok := Both(r, by); ok {
		l = append(l, both)
	}
	slices.SortFunc(l, func(a, b api.Range) int { return whole(a.From).Cmp(whole(b.From)) })
	at := r.From
	for _, part := range l {
		if part.From != at || part.To <= at {
			t.Fatalf("%v by %v: %v", r, by, l)
		}
		at = part.To
	}
	if r.From < r.To && at != r.To || r.From >= r.To && len(l) > 0 {
		t.Fatalf("%v by %v: %v", r, by, l)
	}
	for _, part := range Cut(r, by) {
		if Meets(part, by) {
			t.Fatalf("%v, which is cut by %v, has %v", r, by, part)
		}
		checkCut(t, part, by, part)
		checkCut(t, part, r)
	}
}

// P13.1, P13.2: of small ranges, and of those at numbers' ends.
func TestBothAndCutTogether(t *testing.T) {
	for _, all := range [][]api.Range{small(-3, 5), great()} {
		for _, r := range all {
			for _, by := range all {
				checkTogether(t, r, by)
			}
		}
	}
}

// P13.2: a cut ahead, behind, amid, over the beginning, over the end, over all, and of and by what has no ticks.
func TestCutKnown(t *testing.T) {
	r := api.Range{From: 10, To: 20}
	for _, x := range []struct {
		from, to int64
		want     []api.Range
	}{
		{0, 5, []api.Range{r}}, {0, 9, []api.Range{r}}, {0, 10, []api.Range{r}}, {9, 10, []api.Range{r}}, {-5, -1, []api.Range{r}}, {least, 10, []api.Range{r}},
		{25, 30, []api.Range{r}}, {21, 30, []api.Range{r}}, {20, 30, []api.Range{r}}, {20, 21, []api.Range{r}}, {20, greatest, []api.Range{r}},
		{13, 15, []api.Range{{From: 10, To: 13}, {From: 15, To: 20}}},
		{11, 19, []api.Range{{From: 10, To: 11}, {From: 19, To: 20}}},
		{14, 15, []api.Range{{From: 10, To: 14}, {From: 15, To: 20}}},
		{10, 11, []api.Range{{From: 11, To: 20}}}, {9, 11, []api.Range{{From: 11, To: 20}}}, {0, 15, []api.Range{{From: 15, To: 20}}}, {10, 19, []api.Range{{From: 19, To: 20}}}, {least, 19, []api.Range{{From: 19, To: 20}}}, {-1, 19, []api.Range{{From: 19, To: 20}}},
		{19, 20, []api.Range{{From: 10, To: 19}}}, {19, 21, []api.Range{{From: 10, To: 19}}}, {15, 30, []api.Range{{From: 10, To: 15}}}, {11, 20, []api.Range{{From: 10, To: 11}}}, {11, greatest, []api.Range{{From: 10, To: 11}}}, {11, maxTime + 2, []api.Range{{From: 10, To: 11}}},
		{10, 20, nil}, {9, 21, nil}, {10, 21, nil}, {9, 20, nil}, {0, maxTime + 1, nil}, {least, greatest, nil},
		{0, 0, []api.Range{r}}, {10, 10, []api.Range{r}}, {15, 15, []api.Range{r}}, {20, 20, []api.Range{r}}, {30, 30, []api.Range{r}},
		{15, 13, []api.Range{r}}, {19, 11, []api.Range{r}}, {20, 10, []api.Range{r}}, {21, 9, []api.Range{r}}, {30, 0, []api.Range{r}}, {15, 5, []api.Range{r}}, {25, 15, []api.Range{r}}, {greatest, least, []api.Range{r}}, {15, least, []api.Range{r}}, {greatest, 15, []api.Range{r}},
	} {
		checkCut(t, r, api.Range{From: x.from, To: x.to}, x.want...)
	}
}

// P13.2: what has no ticks is cut to nothing, and cuts nothing, whatever the other one is.
func TestCutWithoutTicks(t *testing.T) {
	none := []api.Range{{}, {From: 5, To: 5}, {From: 7, To: 3}, {From: -1, To: -1}, {From: 0, To: -1}, {From: 20, To: 10}, {From: maxTime + 1, To: maxTime + 1}, {From: greatest, To: least}, {From: least, To: least}, {From: greatest, To: greatest}}
	for _, r := range none {
		for _, by := range append(append(small(-3, 8), great()...), none...) {
			checkCut(t, r, by)
			if by.From < by.To {
				checkCut(t, by, r, by)
			}
		}
	}
}

// P13.2: whole windows, one of a single tick, and those that begin or end a tick beside an edge.
func TestCoverKnown(t *testing.T) {
	for _, x := range []struct {
		tier       int
		r          api.Range
		from, upTo int64
	}{
		{api.Raw, api.Range{From: 0, To: 1}, 0, 1}, {api.Raw, api.Range{From: 10, To: 20}, 10, 20}, {api.Raw, api.Range{From: 299, To: 601}, 299, 601},
		{api.Mid, api.Range{From: 0, To: 1}, 0, 300}, {api.Mid, api.Range{From: 10, To: 20}, 0, 300}, {api.Mid, api.Range{From: 150, To: 151}, 0, 300}, {api.Mid, api.Range{From: 299, To: 300}, 0, 300},
		{api.Mid, api.Range{From: 0, To: 299}, 0, 300}, {api.Mid, api.Range{From: 0, To: 300}, 0, 300}, {api.Mid, api.Range{From: 1, To: 300}, 0, 300}, {api.Mid, api.Range{From: 0, To: 301}, 0, 600},
		{api.Mid, api.Range{From: 300, To: 301}, 300, 600}, {api.Mid, api.Range{From: 300, To: 600}, 300, 600}, {api.Mid, api.Range{From: 299, To: 600}, 0, 600}, {api.Mid, api.Range{From: 301, To: 600}, 300, 600}, {api.Mid, api.Range{From: 300, To: 601}, 300, 900}, {api.Mid, api.Range{From: 300, To: 599}, 300, 600}, {api.Mid, api.Range{From: 299, To: 601}, 0, 900}, {api.Mid, api.Range{From: 299, To: 301}, 0, 600},
		{api.Mid, api.Range{From: 300, To: 1200}, 300, 1200},
		{api.Long, api.Range{From: 0, To: 1}, 0, 3600}, {api.Long, api.Range{From: 10, To: 20}, 0, 3600}, {api.Long, api.Range{From: 10, To: 3601}, 0, 7200}, {api.Long, api.Range{From: 3599, To: 3600}, 0, 3600}, {api.Long, api.Range{From: 3599, To: 3601}, 0, 7200}, {api.Long, api.Range{From: 3600, To: 7200}, 3600, 7200}, {api.Long, api.Range{From: 3600, To: 7201}, 3600, 10800}, {api.Long, api.Range{From: 3601, To: 7199}, 3600, 7200},
		// Up to MaxTime and 1, where a window goes on behind it.
		{api.Raw, api.Range{From: maxTime, To: maxTime + 1}, maxTime, maxTime + 1}, {api.Raw, api.Range{From: 0, To: maxTime + 1}, 0, maxTime + 1},
		{api.Mid, api.Range{From: maxTime, To: maxTime + 1}, 1099511627700, 1099511628000}, {api.Mid, api.Range{From: 1099511627700, To: maxTime + 1}, 1099511627700, 1099511628000}, {api.Mid, api.Range{From: 1099511627699, To: maxTime + 1}, 1099511627400, 1099511628000}, {api.Mid, api.Range{From: 0, To: maxTime + 1}, 0, 1099511628000}, {api.Mid, api.Range{From: 0, To: 1099511627700}, 0, 1099511627700},
		{api.Long, api.Range{From: maxTime, To: maxTime + 1}, 1099511625600, 1099511629200}, {api.Long, api.Range{From: 1099511625599, To: maxTime}, 1099511622000, 1099511629200}, {api.Long, api.Range{From: 0, To: maxTime + 1}, 0, 1099511629200}, {api.Long, api.Range{From: 0, To: 1099511625600}, 0, 1099511625600},
	} {
		checkCover(t, x.tier, x.r, api.Range{From: x.from, To: x.upTo})
	}
}

// P13.2: windows as they are written by hand, each whole.
func TestEachKnown(t *testing.T) {
	a, b, c, d := api.Range{From: 0, To: 300}, api.Range{From: 300, To: 600}, api.Range{From: 600, To: 900}, api.Range{From: 900, To: 1200}
	for _, x := range []struct {
		from, to int64
		want     []api.Range
	}{
		{0, 1, []api.Range{a}}, {10, 20, []api.Range{a}}, {299, 300, []api.Range{a}}, {0, 300, []api.Range{a}},
		{300, 301, []api.Range{b}}, {300, 600, []api.Range{b}}, {450, 451, []api.Range{b}}, {301, 599, []api.Range{b}},
		{299, 301, []api.Range{a, b}}, {0, 301, []api.Range{a, b}}, {299, 600, []api.Range{a, b}}, {0, 600, []api.Range{a, b}},
		{299, 601, []api.Range{a, b, c}}, {0, 900, []api.Range{a, b, c}}, {300, 1200, []api.Range{b, c, d}}, {1, 1199, []api.Range{a, b, c, d}},
		{maxTime, maxTime + 1, []api.Range{{From: 1099511627700, To: 1099511628000}}},
		{1099511627699, maxTime + 1, []api.Range{{From: 1099511627400, To: 1099511627700}, {From: 1099511627700, To: 1099511628000}}},
	} {
		checkEach(t, api.Mid, api.Range{From: x.from, To: x.to}, x.want...)
	}
	checkEach(t, api.Raw, api.Range{From: 299, To: 302}, api.Range{From: 299, To: 300}, api.Range{From: 300, To: 301}, api.Range{From: 301, To: 302})
	checkEach(t, api.Raw, api.Range{From: maxTime - 1, To: maxTime + 1}, api.Range{From: maxTime - 1, To: maxTime}, api.Range{From: maxTime, To: maxTime + 1})
	checkEach(t, api.Long, api.Range{From: 10, To: 3601}, api.Range{From: 0, To: 3600}, api.Range{From: 3600, To: 7200})
	checkEach(t, api.Long, api.Range{From: 1099511625599, To: maxTime + 1}, api.Range{From: 1099511622000, To: 1099511625600}, api.Range{From: 1099511625600, To: 1099511629200})
}

// plain are the windows of a width, from one of a number on, that have some of a range, looked at one by one.
func plain(width, from int64, r api.Range) []api.Range {
	var l []api.Range
	for n := from; n*width < r.To; n++ {
		w := api.Range{From: n * width, To: (n + 1) * width}
		if w.From < r.To && r.From < w.To {
			l = append(l, w)
		}
	}
	return l
}

// P13.2: all ranges with ends at and beside windows' edges, near 0 and near MaxTime.
func TestCoverAndEach(t *testing.T) {
	for tier, width := range ofTier {
		for _, near := range []int64{0, 4000, maxTime/width - 4} {
			var l []int64
			for n := near; n < near+6; n++ {
				l = append(l, n*width-1, n*width, n*width+1, n*width+width/2)
			}
			if near > 4000 {
				l = append(l, maxTime-1, maxTime, maxTime+1)
			}
			for _, from := range l {
				for _, to := range l {
					r := api.Range{From: from, To: to}
					if from < 0 || from >= to || to > maxTime+1 {
						continue
					}
					want := plain(width, max(0, near-1), r)
					checkEach(t, tier, r, want...)
					checkCover(t, tier, r, api.Range{From: want[0].From, To: want[len(want)-1].To})
				}
			}
		}
	}
}

// P13.2: a range's cover has all of it, and is covered by itself; a window less at either end would leave some out.
func TestCoverIsTheLeast(t *testing.T) {
	r := rand.New(rand.NewSource(13))
	for range 20000 {
		from := r.Int63n(maxTime + 1)
		to := from + 1 + r.Int63n(min(maxTime+1-from, 1<<r.Intn(41)))
		is := api.Range{From: from, To: to}
		for tier, width := range ofTier {
			c := Cover(tier, is)
			if c.From > from || c.To < to || c.From%width != 0 || c.To%width != 0 || c.From+width <= from || c.To-width >= to {
				t.Fatalf("Cover(%d, %v): %v", tier, is, c)
			}
			if c.To <= maxTime+1 && Cover(tier, c) != c {
				t.Fatalf("Cover(%d, %v): %v", tier, c, Cover(tier, c))
			}
		}
	}
}

// P13.2: of ranges that aren't right, and of no tier, nothing is told.
func TestCoverAndEachOfNothing(t *testing.T) {
	tiers := []int{api.Raw, api.Mid, api.Long}
	for _, r := range append(append(wrong(), small(-9, 9)...), great()...) {
		if !(0 <= r.From && r.From < r.To && r.To <= maxTime+1) {
			for _, tier := range append(noTiers(), tiers...) {
				checkCover(t, tier, r, api.Range{})
				checkEach(t, tier, r)
			}
		}
		for _, tier := range noTiers() {
			checkCover(t, tier, r, api.Range{})
			checkEach(t, tier, r)
		}
	}
}

// P13.2: an iterator tells the same each time, also amid being gone through, and behind a stop.
func TestEachAgain(t *testing.T) {
	r := api.Range{From: 299, To: 3900}
	for tier, width := range ofTier {
		want := plain(width, 0, r)
		seq := Each(tier, r)
		for range 3 {
			if got := slices.Collect(seq); !slices.Equal(got, want) {
				t.Fatalf("%d: %v", tier, got)
			}
		}
		n := 0
		for w := range seq {
			if w != want[n] {
				t.Fatalf("%d: %v at %d", tier, w, n)
			}
			if n++; n < 3 && !slices.Equal(slices.Collect(seq), want) {
				t.Fatalf("%d: another row amid the first one", tier)
			}
		}
		if n != len(want) {
			t.Fatalf("%d: %d windows", tier, n)
		}
	}
}

// firsts are so many as an iterator tells till it is stopped.
func firsts(t *testing.T, seq iter.Seq[api.Range], most int) []api.Range {
	t.Helper()
	var l []api.Range
	stopped := false
	seq(func(r api.Range) bool {
		if stopped {
			t.Fatalf("%v is told behind the stop", r)
		}
		l = append(l, r)
		stopped = len(l) == most
		return !stopped
	})
	return l
}

// P13.2: stopped at each window, nothing more is told, and the next time it begins anew.
func TestEachStopped(t *testing.T) {
	for tier, width := range ofTier {
		r := api.Range{From: 1, To: 10*width + 1}
		want := plain(width, 0, r)
		seq := Each(tier, r)
		for n := 1; n <= len(want); n++ {
			if got := firsts(t, seq, n); !slices.Equal(got, want[:n]) {
				t.Fatalf("%d, stopped at %d: %v", tier, n, got)
			}
		}
		if got := slices.Collect(seq); !slices.Equal(got, want) {
			t.Fatalf("%d, behind stops: %v", tier, got)
		}
	}
	// More than go into any memory are told one by one.
	if got := firsts(t, Each(api.Raw, api.Range{From: 0, To: maxTime + 1}), 3); !slices.Equal(got, []api.Range{{From: 0, To: 1}, {From: 1, To: 2}, {From: 2, To: 3}}) {
		t.Fatalf("of all ticks: %v", got)
	}
}

// P13.2: two iterators don't touch each other.
func TestEachTwo(t *testing.T) {
	next, stop := iter.Pull(Each(api.Mid, api.Range{From: 0, To: 1200}))
	defer stop()
	other, stopOther := iter.Pull(Each(api.Long, api.Range{From: 3600, To: 18000}))
	defer stopOther()
	for n := range int64(4) {
		a, ok := next()
		b, okToo := other()
		if a != (api.Range{From: n * 300, To: n*300 + 300}) || b != (api.Range{From: n*3600 + 3600, To: n*3600 + 7200}) || !ok || !okToo {
			t.Fatalf("%d: %v, %v", n, a, b)
		}
	}
	_, ok := next()
	_, okToo := other()
	if ok || okToo {
		t.Fatal("a window too many")
	}
}

// P13.2, P13.1: every window that is told meets the range, and is the one of its ticks.
func TestEachIsOfItsTicks(t *testing.T) {
	for tier := range ofTier {
		for _, r := range []api.Range{{From: 0, To: 1}, {From: 299, To: 601}, {From: 10, To: 3601}, {From: 4000, To: 11000}, {From: maxTime - 5000, To: maxTime + 1}} {
			told := map[api.Range]bool{}
			for w := range Each(tier, r) {
				if !Meets(w, r) || Of(tier, w.From) != w || Of(tier, w.To-1) != w || told[w] {
					t.Fatalf("Each(%d, %v): %v", tier, r, w)
				}
				told[w] = true
			}
			for at := r.From; at < r.To; at++ {
				if !told[Of(tier, at)] {
					t.Fatalf("Each(%d, %v) doesn't tell the window of %d", tier, r, at)
				}
			}
		}
	}
}

// P13.3: what is told may be changed, and added to, and is told again as before.
func TestAnswersAreNew(t *testing.T) {
	for _, x := range []struct {
		r, by api.Range
		want  []api.Range
	}{
		{api.Range{From: 0, To: 9}, api.Range{From: 3, To: 5}, []api.Range{{From: 0, To: 3}, {From: 5, To: 9}}},
		{api.Range{From: 0, To: 9}, api.Range{From: 0, To: 5}, []api.Range{{From: 5, To: 9}}},
		{api.Range{From: 0, To: 9}, api.Range{From: 5, To: 9}, []api.Range{{From: 0, To: 5}}},
		{api.Range{From: 0, To: 9}, api.Range{From: 20, To: 30}, []api.Range{{From: 0, To: 9}}},
		{api.Range{From: 0, To: 9}, api.Range{From: 5, To: 5}, []api.Range{{From: 0, To: 9}}},
		{api.Range{From: 0, To: 9}, api.Range{From: 0, To: 9}, nil},
		{api.Range{From: 9, To: 0}, api.Range{From: 0, To: 9}, nil},
	} {
		kept, changed := Cut(x.r, x.by), Cut(x.r, x.by)
		whole := changed[:cap(changed)]
		for i := range whole {
			whole[i] = api.Range{From: -7, To: -9}
		}
		_ = append(changed, api.Range{From: -1, To: -2})
		if !slices.Equal(kept, x.want) {
			t.Fatalf("Cut of %v by %v: %v behind a change of another answer", x.r, x.by, kept)
		}
		checkCut(t, x.r, x.by, x.want...)
	}
}

// P13.3: what one iterator tells is kept while it is gone through again.
func TestEachIsNew(t *testing.T) {
	seq := Each(api.Mid, api.Range{From: 0, To: 1200})
	kept := slices.Collect(seq)
	changed := slices.Collect(seq)
	for i := range changed {
		changed[i].From, changed[i].To = -1, -1
	}
	for w := range seq {
		w.From, w.To = 5, 6
	}
	want := plain(300, 0, api.Range{From: 0, To: 1200})
	if !slices.Equal(kept, want) || !slices.Equal(slices.Collect(seq), want) {
		t.Fatalf("%v, and again %v", kept, slices.Collect(seq))
	}
}

// P13.1, P13.2: what is asked again is answered again, whatever was asked between.
func TestAgain(t *testing.T) {
	for range 2 {
		for tier := range ofTier {
			for _, at := range append(ticks(), below()...) {
				first := []api.Range{Of(tier, at), {From: Start(tier, at), To: Width(tier)}, Cover(tier, api.Range{From: at, To: maxTime})}
				Of(tier+1, at+1)
				Cover(tier-1, api.Range{From: 7, To: 9000})
				Closed(tier, at, at+300)
				if !slices.Equal(first, []api.Range{Of(tier, at), {From: Start(tier, at), To: Width(tier)}, Cover(tier, api.Range{From: at, To: maxTime})}) {
					t.Fatalf("%d, %d: another answer", tier, at)
				}
			}
		}
	}
}

// P13.1, P13.2: ticks and ranges by chance, by numbers without bounds.
func TestChance(t *testing.T) {
	r := rand.New(rand.NewSource(14))
	number := func() int64 {
		return int64(r.Uint64()) >> r.Intn(64)
	}
	for range 50000 {
		at, now := number(), number()
		a, b := api.Range{From: number(), To: number()}, api.Range{From: number(), To: number()}
		for tier, width := range ofTier {
			if at < 0 {
				checkOf(t, tier, at, api.Range{})
				checkClosed(t, tier, at, now, false)
				continue
			}
			checkOf(t, tier, at, api.Range{From: told(startOf(width, at)), To: told(endOf(width, at))})
			checkClosed(t, tier, at, now, endOf(width, at).Cmp(whole(now)) <= 0)
		}
		checkIn(t, a, at, whole(a.From).Cmp(whole(at)) <= 0 && whole(at).Cmp(whole(a.To)) < 0)
		checkTogether(t, a, b)
		// A tick that both have is in what they have in common, and in nothing that is left of either.
		common, ok := Both(a, b)
		checkBoth(t, a, b, common)
		if has := In(a, at) && In(b, at); has != In(common, at) || has && !ok {
			t.Fatalf("Both(%v, %v): %v, and %d", a, b, common, at)
		}
		n := 0
		for _, part := range Cut(a, b) {
			if In(part, at) {
				n++
			}
		}
		if (n == 1) != (In(a, at) && !In(b, at)) || n > 1 {
			t.Fatalf("Cut of %v by %v: %d parts have %d", a, b, n, at)
		}
	}
}
