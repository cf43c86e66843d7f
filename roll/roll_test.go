package roll_test

import (
	"maps"
	"math"
	"math/big"
	"math/rand"
	"slices"
	"testing"

	"catacomb/api"
	"catacomb/roll"
)

const (
	least    = math.MinInt64
	greatest = math.MaxInt64
	maxTime  = 1099511627776 // 2 to the power of 40
)

// tiers are how many ticks a window has, by the tiers' numbers.
var tiers = map[int]int64{0: 1, 1: 300, 2: 3600}

// noTiers are numbers of no tier.
func noTiers() []int {
	return []int{-1, -2, -3, -300, 3, 4, 5, 7, 255, 256, 257, 258, 300, 3600, 65536, 65537, 65538, 1 << 32, 1<<32 + 1, 1<<32 + 2, -1<<32 + 1, math.MinInt, math.MinInt + 1, math.MinInt + 2, math.MaxInt, math.MaxInt - 1}
}

// ends are numbers of all kinds, those at both ends too.
func ends() []int64 {
	return []int64{least, least + 1, least + 2, -1 << 62, -maxTime, -1 << 32, -301, -300, -7, -2, -1, 0, 1, 2, 3, 299, 300, 301, 3600, 1 << 31, 1 << 32, maxTime, maxTime + 1, 1 << 62, greatest - 2, greatest - 1, greatest}
}

// nearest is a number without bounds as the nearest one of 64 bits.
func nearest(n *big.Int) int64 {
	if n.IsInt64() {
		return n.Int64()
	}
	if n.Sign() < 0 {
		return least
	}
	return greatest
}

// total adds up from the first number to the last one, by numbers without bounds, the nearest one behind each step.
func total(l []int64) int64 {
	var sum int64
	for _, n := range l {
		sum = nearest(new(big.Int).Add(big.NewInt(sum), big.NewInt(n)))
	}
	return sum
}

// joined is what aggregates come to, each of its numbers on its own.
func joined(at int64, l []api.Agg) (api.Agg, bool) {
	var counts, sums, mins, maxs []int64
	for _, a := range l {
		if a.Count >= 1 {
			counts, sums = append(counts, a.Count), append(sums, a.Sum)
			mins, maxs = append(mins, a.Min), append(maxs, a.Max)
		}
	}
	if len(counts) == 0 {
		return api.Agg{}, false
	}
	return api.Agg{At: at, Count: total(counts), Sum: total(sums), Min: slices.Min(mins), Max: slices.Max(maxs)}, true
}

// ones are points as aggregates of one value.
func ones(l []api.Point) []api.Agg {
	var aggs []api.Agg
	for _, p := range l {
		aggs = append(aggs, api.Agg{At: p.At, Count: 1, Sum: p.Value, Min: p.Value, Max: p.Value})
	}
	return aggs
}

// rises tells whether a list's ticks are 0 or more, each above the one ahead.
func rises(l []api.Agg) bool {
	for i, a := range l {
		if a.At < 0 || i > 0 && a.At <= l[i-1].At {
			return false
		}
	}
	return true
}

// grouped is what the windows of a tier come to, by a plain table of them.
func grouped(tier int, l []api.Agg) []api.Agg {
	width, ok := tiers[tier]
	if !ok || !rises(l) {
		return nil
	}
	parts := map[int64][]api.Agg{}
	for _, a := range l {
		start := a.At / width * width
		parts[start] = append(parts[start], a)
	}
	var aggs []api.Agg
	for _, start := range slices.Sorted(maps.Keys(parts)) {
		if a, ok := joined(start, parts[start]); ok {
			aggs = append(aggs, a)
		}
	}
	return aggs
}

// looped is the same, by a plain loop over all windows, each tick of each looked for; the ticks are small ones.
func looped(tier int, l []api.Agg) []api.Agg {
	at := map[int64]api.Agg{}
	var last int64
	for _, a := range l {
		at[a.At], last = a, max(last, a.At)
	}
	var aggs []api.Agg
	for start := int64(0); start <= last; start += tiers[tier] {
		var part []api.Agg
		for tick := start; tick < start+tiers[tier]; tick++ {
			if a, ok := at[tick]; ok {
				part = append(part, a)
			}
		}
		if a, ok := joined(start, part); ok {
			aggs = append(aggs, a)
		}
	}
	return aggs
}

// points are those of some ticks, their values 10, 11 and so on.
func points(ticks ...int64) []api.Point {
	var l []api.Point
	for i, at := range ticks {
		l = append(l, api.Point{At: at, Value: int64(i) + 10})
	}
	return l
}

// values are points of some values, at ticks that don't rise.
func values(l ...int64) []api.Point {
	var out []api.Point
	for i, v := range l {
		out = append(out, api.Point{At: 700 - int64(i), Value: v})
	}
	return out
}

// aggs are those of some ticks, each other than the one ahead.
func aggs(ticks ...int64) []api.Agg {
	var l []api.Agg
	for i, at := range ticks {
		n := int64(i)
		l = append(l, api.Agg{At: at, Count: n + 1, Sum: 100*n + 5, Min: 3 - n, Max: 40 + 2*n})
	}
	return l
}

// row is n points, at from, from and step, and so on, of values beside their numbers.
func row(n int, from, step, value int64) []api.Point {
	var l []api.Point
	for i := range int64(n) {
		l = append(l, api.Point{At: from + i*step, Value: value + i})
	}
	return l
}

// orders are all orders of a list.
func orders[T any](l []T) [][]T {
	if len(l) == 0 {
		return [][]T{nil}
	}
	var all [][]T
	for i := range l {
		for _, rest := range orders(slices.Concat(l[:i], l[i+1:])) {
			all = append(all, append([]T{l[i]}, rest...))
		}
	}
	return all
}

// rows are all lists of up to n of these.
func rows[T any](n int, of []T) [][]T {
	all := [][]T{nil}
	for from := 0; n > 0; n-- {
		to := len(all)
		for _, l := range all[from:to] {
			for _, x := range of {
				all = append(all, append(slices.Clone(l), x))
			}
		}
		from = to
	}
	return all
}

func checkOf(t *testing.T, at int64, l []api.Point, want api.Agg, wantOK bool) {
	t.Helper()
	if got, ok := roll.Of(at, l); got != want || ok != wantOK {
		t.Fatalf("Of(%d, %v): %v, %v, want %v, %v", at, l, got, ok, want, wantOK)
	}
}

func checkAdd(t *testing.T, a api.Agg, v int64, want api.Agg) {
	t.Helper()
	if got := roll.Add(a, v); got != want {
		t.Fatalf("Add(%v, %d): %v, want %v", a, v, got, want)
	}
}

func checkJoin(t *testing.T, at int64, l []api.Agg, want api.Agg, wantOK bool) {
	t.Helper()
	if got, ok := roll.Join(at, l); got != want || ok != wantOK {
		t.Fatalf("Join(%d, %v): %v, %v, want %v, %v", at, l, got, ok, want, wantOK)
	}
}

// short is the beginning of a list, for what is printed.
func short[T any](l []T) []T { return l[:min(len(l), 9)] }

func checkPoints(t *testing.T, tier int, l []api.Point, want ...api.Agg) {
	t.Helper()
	if got := roll.Points(tier, l); !slices.Equal(got, want) {
		t.Fatalf("Points(%d, %d of %v): %d of %v, want %d of %v", tier, len(l), short(l), len(got), short(got), len(want), short(want))
	}
}

func checkAggs(t *testing.T, tier int, l []api.Agg, want ...api.Agg) {
	t.Helper()
	if got := roll.Aggs(tier, l); !slices.Equal(got, want) {
		t.Fatalf("Aggs(%d, %d of %v): %d of %v, want %d of %v", tier, len(l), short(l), len(got), short(got), len(want), short(want))
	}
}

func checkMean(t *testing.T, count, sum, want int64) {
	t.Helper()
	// What stands in the other fields doesn't matter.
	for _, a := range []api.Agg{{Count: count, Sum: sum}, {At: 300, Count: count, Sum: sum, Min: 9, Max: -9}, {At: -1, Count: count, Sum: sum, Min: least, Max: greatest}} {
		if got := roll.Mean(a); got != want {
			t.Fatalf("Mean(%v): %d, want %d", a, got, want)
		}
	}
}

// P15.1
func TestExample(t *testing.T) {
	checkOf(t, 0, values(3, -1, 4), api.Agg{At: 0, Count: 3, Sum: 6, Min: -1, Max: 4}, true)
	a, _ := roll.Of(0, values(3, -1, 4))
	if roll.Mean(a) != 2 {
		t.Fatalf("Mean(%v): %d", a, roll.Mean(a))
	}
}

// P15.1: of points, as they are written by hand.
func TestOfKnown(t *testing.T) {
	for _, x := range []struct {
		values               []int64
		count, sum, min, max int64
	}{
		{[]int64{0}, 1, 0, 0, 0},
		{[]int64{5}, 1, 5, 5, 5},
		{[]int64{-5}, 1, -5, -5, -5},
		{[]int64{least}, 1, least, least, least},
		{[]int64{greatest}, 1, greatest, greatest, greatest},
		{[]int64{0, 0}, 2, 0, 0, 0},
		{[]int64{5, 5}, 2, 10, 5, 5},
		{[]int64{7, 9}, 2, 16, 7, 9},
		{[]int64{9, 7}, 2, 16, 7, 9},
		{[]int64{-7, -9}, 2, -16, -9, -7},
		{[]int64{-9, -7}, 2, -16, -9, -7},
		{[]int64{1, 2, 3}, 3, 6, 1, 3},
		{[]int64{3, 2, 1}, 3, 6, 1, 3},
		{[]int64{2, 3, 1}, 3, 6, 1, 3},
		{[]int64{2, 1, 3}, 3, 6, 1, 3},
		{[]int64{-1, 0, 1}, 3, 0, -1, 1},
		{[]int64{4, 0, 0, 4}, 4, 8, 0, 4},
		{[]int64{-4, 0, 0, -4}, 4, -8, -4, 0},
		{[]int64{least, greatest}, 2, -1, least, greatest},
		{[]int64{greatest, least}, 2, -1, least, greatest},
		{[]int64{greatest, least, greatest}, 3, greatest - 1, least, greatest},
		{[]int64{greatest - 5, 5}, 2, greatest, 5, greatest - 5},
		{[]int64{least + 5, -5}, 2, least, least + 5, -5},
	} {
		for _, at := range ends() {
			checkOf(t, at, values(x.values...), api.Agg{At: at, Count: x.count, Sum: x.sum, Min: x.min, Max: x.max}, true)
		}
	}
}

// P15.1: of none there is nothing, wherever the window begins.
func TestOfNone(t *testing.T) {
	for _, at := range ends() {
		checkOf(t, at, nil, api.Agg{}, false)
		checkOf(t, at, []api.Point{}, api.Agg{}, false)
		checkOf(t, at, points(1, 2)[:0], api.Agg{}, false)
	}
}

// P15.1, 'an aggregate': the sum saturates at each step, and comes back from there.
func TestOfSaturates(t *testing.T) {
	for _, x := range []struct {
		values []int64
		sum    int64
	}{
		{[]int64{greatest, 1}, greatest},
		{[]int64{1, greatest}, greatest},
		{[]int64{greatest, greatest}, greatest},
		{[]int64{least, -1}, least},
		{[]int64{-1, least}, least},
		{[]int64{least, least}, least},
		{[]int64{greatest, 1, -1}, greatest - 1},
		{[]int64{greatest, -1, 1}, greatest},
		{[]int64{-1, greatest, 1}, greatest},
		{[]int64{greatest, greatest, -1}, greatest - 1},
		{[]int64{greatest, greatest, least}, -1},
		{[]int64{greatest, greatest, least, least}, least},
		{[]int64{greatest, least, greatest, least}, -2},
		{[]int64{greatest, 5, -7, 3}, greatest - 4},
		{[]int64{greatest, 5, -7, 8}, greatest},
		{[]int64{least, -1, 1}, least + 1},
		{[]int64{least, 1, -1}, least},
		{[]int64{1, least, -1}, least},
		{[]int64{least, least, greatest}, -1},
		{[]int64{least, least, greatest, greatest}, greatest - 1},
		{[]int64{least, -5, 7, -3}, least + 4},
		{[]int64{least, -5, 7, -8}, least},
		{[]int64{least, -5, greatest, greatest, 9, least, -1, -9}, -11},
		{[]int64{1 << 62, 1 << 62, -1}, greatest - 1},
		{[]int64{-1 << 62, -1 << 62, -1, 1}, least + 1},
	} {
		l := x.values
		checkOf(t, 600, values(l...), api.Agg{At: 600, Count: int64(len(l)), Sum: x.sum, Min: slices.Min(l), Max: slices.Max(l)}, true)
	}
}

// P15.1: the least and the greatest value, wherever they stand, and sums in the order of the points.
func TestOfAnyOrder(t *testing.T) {
	for _, l := range [][]int64{{1, 2, 3, 4, 5}, {-3, -1, 0, 2, 2}, {-9, -9, -4, -1, -1}, {least, -1, 0, 1, greatest}, {greatest, greatest, 7, -8, least}, {least, least, -7, 8, greatest}} {
		for _, o := range orders(l) {
			checkOf(t, -3, values(o...), api.Agg{At: -3, Count: 5, Sum: total(o), Min: slices.Min(l), Max: slices.Max(l)}, true)
		}
	}
}

// P15.1: all lists of up to four values, at the numbers' ends and near 0.
func TestOfAllSmall(t *testing.T) {
	for _, l := range rows(4, []int64{least, least + 1, -2, -1, 0, 1, 2, greatest - 1, greatest}) {
		p := values(l...)
		want, ok := joined(900, ones(p))
		checkOf(t, 900, p, want, ok)
	}
}

// P15.1: Of asks for no ticks: not whether they rise, nor whether they lie in a window.
func TestOfAnyTicks(t *testing.T) {
	for _, ticks := range [][]int64{{5, 5, 5}, {3, 2, 1}, {-1, -2, -3}, {least, 0, greatest}, {greatest, 0, least}, {0, 300, 3600}, {maxTime + 1, maxTime, 7}} {
		for _, at := range ends() {
			checkOf(t, at, points(ticks...), api.Agg{At: at, Count: 3, Sum: 33, Min: 10, Max: 12}, true)
		}
	}
}

// P15.1: many points.
func TestOfMany(t *testing.T) {
	for _, n := range []int64{2, 255, 256, 257, 1000, 65536, 70001} {
		checkOf(t, 300, row(int(n), 0, 1, 1), api.Agg{At: 300, Count: n, Sum: n * (n + 1) / 2, Min: 1, Max: n}, true)
		checkOf(t, 300, row(int(n), 0, 1, -n), api.Agg{At: 300, Count: n, Sum: -n * (n + 1) / 2, Min: -n, Max: -1}, true)
	}
}

// P15.1: a value more, as written by hand.
func TestAddKnown(t *testing.T) {
	for _, x := range []struct {
		a    api.Agg
		v    int64
		want api.Agg
	}{
		{api.Agg{At: 300, Count: 1, Sum: 5, Min: 5, Max: 5}, 7, api.Agg{At: 300, Count: 2, Sum: 12, Min: 5, Max: 7}},
		{api.Agg{At: 300, Count: 1, Sum: 5, Min: 5, Max: 5}, 5, api.Agg{At: 300, Count: 2, Sum: 10, Min: 5, Max: 5}},
		{api.Agg{At: 300, Count: 1, Sum: 5, Min: 5, Max: 5}, -7, api.Agg{At: 300, Count: 2, Sum: -2, Min: -7, Max: 5}},
		{api.Agg{At: 300, Count: 1, Sum: 5, Min: 5, Max: 5}, 0, api.Agg{At: 300, Count: 2, Sum: 5, Min: 0, Max: 5}},
		{api.Agg{At: 0, Count: 1, Sum: 0, Min: 0, Max: 0}, 3, api.Agg{At: 0, Count: 2, Sum: 3, Min: 0, Max: 3}},
		{api.Agg{At: 0, Count: 1, Sum: 0, Min: 0, Max: 0}, -3, api.Agg{At: 0, Count: 2, Sum: -3, Min: -3, Max: 0}},
		{api.Agg{At: 7, Count: 3, Sum: 6, Min: -1, Max: 4}, 2, api.Agg{At: 7, Count: 4, Sum: 8, Min: -1, Max: 4}},
		{api.Agg{At: 7, Count: 3, Sum: 6, Min: -1, Max: 4}, -1, api.Agg{At: 7, Count: 4, Sum: 5, Min: -1, Max: 4}},
		{api.Agg{At: 7, Count: 3, Sum: 6, Min: -1, Max: 4}, least, api.Agg{At: 7, Count: 4, Sum: least + 6, Min: least, Max: 4}},
		{api.Agg{At: 7, Count: 3, Sum: 6, Min: -1, Max: 4}, greatest, api.Agg{At: 7, Count: 4, Sum: greatest, Min: -1, Max: greatest}},
		{api.Agg{At: least, Count: 3, Sum: -6, Min: -4, Max: 1}, least, api.Agg{At: least, Count: 4, Sum: least, Min: least, Max: 1}},
		{api.Agg{At: greatest, Count: 3, Sum: -6, Min: -4, Max: 1}, greatest, api.Agg{At: greatest, Count: 4, Sum: greatest - 6, Min: -4, Max: greatest}},
		// At the ends of the count, and of the sum.
		{api.Agg{Count: greatest - 1, Sum: 2, Min: 1, Max: 1}, 1, api.Agg{Count: greatest, Sum: 3, Min: 1, Max: 1}},
		{api.Agg{Count: greatest, Sum: 2, Min: 1, Max: 1}, 1, api.Agg{Count: greatest, Sum: 3, Min: 1, Max: 1}},
		{api.Agg{Count: greatest, Sum: 2, Min: 1, Max: 1}, -5, api.Agg{Count: greatest, Sum: -3, Min: -5, Max: 1}},
		{api.Agg{Count: 2, Sum: greatest, Min: 1, Max: 9}, 1, api.Agg{Count: 3, Sum: greatest, Min: 1, Max: 9}},
		{api.Agg{Count: 2, Sum: greatest, Min: 1, Max: 9}, -1, api.Agg{Count: 3, Sum: greatest - 1, Min: -1, Max: 9}},
		{api.Agg{Count: 2, Sum: greatest, Min: 1, Max: 9}, least, api.Agg{Count: 3, Sum: -1, Min: least, Max: 9}},
		{api.Agg{Count: 2, Sum: least, Min: 1, Max: 9}, -1, api.Agg{Count: 3, Sum: least, Min: -1, Max: 9}},
		{api.Agg{Count: 2, Sum: least, Min: 1, Max: 9}, 1, api.Agg{Count: 3, Sum: least + 1, Min: 1, Max: 9}},
		{api.Agg{Count: 2, Sum: least, Min: 1, Max: 9}, greatest, api.Agg{Count: 3, Sum: -1, Min: 1, Max: greatest}},
		// One that isn't right has a least and a greatest value all the same.
		{api.Agg{Count: 1, Sum: 2, Min: 9, Max: -9}, 1, api.Agg{Count: 2, Sum: 3, Min: 1, Max: 1}},
		{api.Agg{Count: 1, Sum: 2, Min: 9, Max: -9}, 10, api.Agg{Count: 2, Sum: 12, Min: 9, Max: 10}},
		{api.Agg{Count: 1, Sum: 2, Min: 9, Max: -9}, -10, api.Agg{Count: 2, Sum: -8, Min: -10, Max: -9}},
	} {
		checkAdd(t, x.a, x.v, x.want)
	}
}

// without are aggregates without values, of one beginning.
func without(at int64) []api.Agg {
	var l []api.Agg
	for _, count := range []int64{0, -1, -2, -300, -1 << 32, least, least + 1} {
		l = append(l,
			api.Agg{At: at, Count: count},
			api.Agg{At: at, Count: count, Sum: 4, Min: 4, Max: 4},
			api.Agg{At: at, Count: count, Sum: -9, Min: -100, Max: 100},
			api.Agg{At: at, Count: count, Sum: greatest, Min: greatest, Max: greatest},
			api.Agg{At: at, Count: count, Sum: least, Min: least, Max: least},
			api.Agg{At: at, Count: count, Sum: 1, Min: least, Max: greatest},
			api.Agg{At: at, Count: count, Sum: 1, Min: greatest, Max: least},
		)
	}
	return l
}

// P15.1: to one without values, whatever else it is: just that value.
func TestAddToNone(t *testing.T) {
	for _, at := range ends() {
		for _, a := range without(at) {
			for _, v := range ends() {
				checkAdd(t, a, v, api.Agg{At: at, Count: 1, Sum: v, Min: v, Max: v})
			}
		}
	}
}

// P15.1: a value more at and beside all ends.
func TestAddAtEnds(t *testing.T) {
	for _, count := range []int64{1, 2, 3, 1 << 32, greatest - 2, greatest - 1, greatest} {
		for _, sum := range ends() {
			for _, m := range [][2]int64{{0, 0}, {-1, 1}, {5, 9}, {-9, -5}, {least, greatest}, {least, least}, {greatest, greatest}, {greatest, least}} {
				for _, v := range ends() {
					a := api.Agg{At: sum, Count: count, Sum: sum, Min: m[0], Max: m[1]}
					checkAdd(t, a, v, api.Agg{At: sum, Count: total([]int64{count, 1}), Sum: total([]int64{sum, v}), Min: min(m[0], v), Max: max(m[1], v)})
				}
			}
		}
	}
}

// P15.1: value by value it comes to what Of tells of all of them.
func TestAddOneByOne(t *testing.T) {
	for _, l := range rows(3, []int64{least, -1, 0, 1, greatest}) {
		a := api.Agg{At: 42}
		for i, v := range l {
			a = roll.Add(a, v)
			checkOf(t, 42, values(l[:i+1]...), a, true)
		}
	}
}

// P15.1: of aggregates, as they are written by hand.
func TestJoinKnown(t *testing.T) {
	a := api.Agg{At: 0, Count: 2, Sum: 7, Min: 3, Max: 4}
	b := api.Agg{At: 300, Count: 3, Sum: -6, Min: -5, Max: 1}
	c := api.Agg{At: 600, Count: 5, Sum: 50, Min: 10, Max: 10}
	for _, x := range []struct {
		l    []api.Agg
		want api.Agg
	}{
		{[]api.Agg{a}, api.Agg{Count: 2, Sum: 7, Min: 3, Max: 4}},
		{[]api.Agg{b}, api.Agg{Count: 3, Sum: -6, Min: -5, Max: 1}},
		{[]api.Agg{a, b}, api.Agg{Count: 5, Sum: 1, Min: -5, Max: 4}},
		{[]api.Agg{b, a}, api.Agg{Count: 5, Sum: 1, Min: -5, Max: 4}},
		{[]api.Agg{a, c}, api.Agg{Count: 7, Sum: 57, Min: 3, Max: 10}},
		{[]api.Agg{c, b}, api.Agg{Count: 8, Sum: 44, Min: -5, Max: 10}},
		{[]api.Agg{a, a}, api.Agg{Count: 4, Sum: 14, Min: 3, Max: 4}},
		{[]api.Agg{a, b, c}, api.Agg{Count: 10, Sum: 51, Min: -5, Max: 10}},
		{[]api.Agg{c, b, a}, api.Agg{Count: 10, Sum: 51, Min: -5, Max: 10}},
		{[]api.Agg{b, c, a}, api.Agg{Count: 10, Sum: 51, Min: -5, Max: 10}},
		// One that isn't right is joined like others.
		{[]api.Agg{{Count: 1, Sum: 1, Min: 9, Max: -9}}, api.Agg{Count: 1, Sum: 1, Min: 9, Max: -9}},
		{[]api.Agg{a, {Count: 1, Sum: 1, Min: 9, Max: -9}}, api.Agg{Count: 3, Sum: 8, Min: 3, Max: 4}},
		{[]api.Agg{{Count: 1, Sum: 1, Min: 9, Max: -9}, {Count: 1, Sum: 1, Min: 8, Max: -8}}, api.Agg{Count: 2, Sum: 2, Min: 8, Max: -8}},
	} {
		for _, at := range ends() {
			x.want.At = at
			checkJoin(t, at, x.l, x.want, true)
		}
	}
}

// P15.1: counts and sums at their ends, saturated step by step, in the order of the aggregates.
func TestJoinSaturates(t *testing.T) {
	type part struct{ count, sum int64 }
	for _, x := range []struct {
		l    []part
		want part
	}{
		{[]part{{greatest, greatest}}, part{greatest, greatest}},
		{[]part{{greatest, least}}, part{greatest, least}},
		{[]part{{greatest, 0}, {1, 0}}, part{greatest, 0}},
		{[]part{{1, 0}, {greatest, 0}}, part{greatest, 0}},
		{[]part{{greatest - 1, 0}, {1, 0}}, part{greatest, 0}},
		{[]part{{greatest - 2, 0}, {1, 0}}, part{greatest - 1, 0}},
		{[]part{{greatest, 4}, {greatest, 5}, {greatest, 6}}, part{greatest, 15}},
		{[]part{{1 << 62, 0}, {1 << 62, 0}}, part{greatest, 0}},
		{[]part{{1, greatest}, {1, 1}}, part{2, greatest}},
		{[]part{{1, least}, {1, -1}}, part{2, least}},
		{[]part{{1, greatest}, {1, 1}, {1, -1}}, part{3, greatest - 1}},
		{[]part{{1, greatest}, {1, -1}, {1, 1}}, part{3, greatest}},
		{[]part{{1, -1}, {1, greatest}, {1, 1}}, part{3, greatest}},
		{[]part{{1, least}, {1, -1}, {1, 1}}, part{3, least + 1}},
		{[]part{{1, least}, {1, 1}, {1, -1}}, part{3, least}},
		{[]part{{1, 1}, {1, least}, {1, -1}}, part{3, least}},
		{[]part{{2, greatest}, {3, greatest}, {4, least}, {5, least}}, part{14, least}},
		{[]part{{2, greatest}, {3, least}, {4, greatest}, {5, least}}, part{14, -2}},
		{[]part{{2, least}, {3, least}, {4, greatest}, {5, greatest}}, part{14, greatest - 1}},
	} {
		var l []api.Agg
		for i, p := range x.l {
			l = append(l, api.Agg{At: int64(i), Count: p.count, Sum: p.sum, Min: -4, Max: 6})
		}
		checkJoin(t, 3600, l, api.Agg{At: 3600, Count: x.want.count, Sum: x.want.sum, Min: -4, Max: 6}, true)
	}
}

// P15.1: of none, and of some that are all without values, there is nothing, wherever the window begins.
func TestJoinNone(t *testing.T) {
	for _, at := range ends() {
		checkJoin(t, at, nil, api.Agg{}, false)
		checkJoin(t, at, []api.Agg{}, api.Agg{}, false)
		checkJoin(t, at, aggs(1, 2)[:0], api.Agg{}, false)
		for _, a := range without(3) {
			checkJoin(t, at, []api.Agg{a}, api.Agg{}, false)
			for _, b := range without(at) {
				checkJoin(t, at, []api.Agg{a, b}, api.Agg{}, false)
			}
		}
		checkJoin(t, at, without(at), api.Agg{}, false)
	}
}

// P15.1: those without values don't count, wherever they stand.
func TestJoinLeavesOut(t *testing.T) {
	for _, l := range [][]api.Agg{aggs(5), aggs(5, 6), aggs(0, 300, 600), {{At: 1, Count: greatest, Sum: least, Min: least, Max: least}}, {{At: 1, Count: 1, Sum: greatest, Min: greatest, Max: greatest}, {At: 2, Count: greatest, Sum: 5, Min: 5, Max: 5}}} {
		want, _ := joined(77, l)
		for _, none := range without(-8) {
			for i := range len(l) + 1 {
				checkJoin(t, 77, slices.Insert(slices.Clone(l), i, none), want, true)
				checkJoin(t, 77, slices.Insert(slices.Clone(l), i, without(9)...), want, true)
			}
			var between []api.Agg
			for _, a := range l {
				between = append(between, none, a, none)
			}
			checkJoin(t, 77, between, want, true)
		}
	}
}

// P15.1: the least and the greatest, wherever they stand; they aren't told by the sums, nor in one aggregate.
func TestJoinAnyOrder(t *testing.T) {
	for _, l := range [][]api.Agg{
		{{At: 1, Count: 1, Sum: 5, Min: 5, Max: 5}, {At: 2, Count: 2, Sum: 3, Min: 1, Max: 2}, {At: 3, Count: 9, Sum: 70, Min: 3, Max: 30}, {At: 4, Count: 2, Sum: 8, Min: 4, Max: 4}},
		{{At: 1, Count: 2, Sum: -1, Min: least, Max: greatest}, {At: 2, Count: 1, Sum: -7, Min: -7, Max: -7}, {At: 3, Count: 1, Sum: 7, Min: 7, Max: 7}, {At: 4, Count: 0, Sum: 9, Min: least, Max: greatest}},
		{{At: 1, Count: 1, Sum: least, Min: least, Max: least}, {At: 2, Count: 1, Sum: greatest, Min: greatest, Max: greatest}, {At: 3, Count: greatest, Sum: greatest, Min: 0, Max: 2}, {At: 4, Count: greatest, Sum: least, Min: -2, Max: 0}},
		{{At: 1, Count: 3, Sum: -30, Min: -12, Max: -8}, {At: 2, Count: 3, Sum: -60, Min: -30, Max: -10}, {At: 3, Count: 3, Sum: -15, Min: -6, Max: -4}, {At: 4, Count: -3, Sum: 5, Min: 0, Max: 100}},
	} {
		for _, o := range orders(l) {
			want, ok := joined(-5, o)
			checkJoin(t, -5, o, want, ok)
		}
	}
}

// kinds are aggregates of all kinds at one tick.
func kinds(at int64) []api.Agg {
	return []api.Agg{
		{At: at, Count: 1, Sum: 3, Min: 3, Max: 3}, {At: at, Count: 2, Sum: -1, Min: -5, Max: 4}, {At: at, Count: 1, Sum: -8, Min: -8, Max: -8},
		{At: at, Count: greatest, Sum: greatest, Min: 1, Max: greatest}, {At: at, Count: greatest - 1, Sum: least, Min: least, Max: 0},
		{At: at, Count: 0, Sum: 50, Min: -50, Max: 50}, {At: at, Count: -1, Sum: greatest, Min: least, Max: greatest}, {At: at, Count: least, Sum: least},
		{At: at, Count: 1, Sum: 0, Min: 6, Max: -6}, {At: at},
	}
}

// P15.1: all lists of up to four aggregates of all kinds.
func TestJoinAllSmall(t *testing.T) {
	for _, l := range rows(4, kinds(12)) {
		want, ok := joined(30, l)
		checkJoin(t, 30, l, want, ok)
	}
}

// P15.1: Join asks for no ticks.
func TestJoinAnyTicks(t *testing.T) {
	for _, ticks := range [][]int64{{5, 5, 5}, {3, 2, 1}, {-1, -2, -3}, {least, 0, greatest}, {greatest, 0, least}, {0, 300, 3600}} {
		for _, at := range ends() {
			checkJoin(t, at, aggs(ticks...), api.Agg{At: at, Count: 6, Sum: 315, Min: 1, Max: 44}, true)
		}
	}
}

// P15.1: of aggregates of one value it is what Of tells of the points, saturated or not.
func TestJoinOfOnes(t *testing.T) {
	for _, l := range rows(4, []int64{least, -3, 0, 3, greatest}) {
		want, ok := roll.Of(60, values(l...))
		checkJoin(t, 60, ones(values(l...)), want, ok)
	}
	for _, n := range []int64{255, 256, 257, 70001} {
		checkJoin(t, 9, ones(row(int(n), 0, 1, 1)), api.Agg{At: 9, Count: n, Sum: n * (n + 1) / 2, Min: 1, Max: n}, true)
	}
}

// P15.1: of points, by windows that are written by hand.
func TestPointsKnown(t *testing.T) {
	l := []api.Point{{At: 0, Value: 5}, {At: 1, Value: -2}, {At: 299, Value: 9}, {At: 300, Value: 4}, {At: 301, Value: 4}, {At: 3599, Value: -6}, {At: 3600, Value: 8}, {At: 7199, Value: 1}, {At: 10800, Value: 0}}
	checkPoints(t, api.Raw, l,
		api.Agg{At: 0, Count: 1, Sum: 5, Min: 5, Max: 5}, api.Agg{At: 1, Count: 1, Sum: -2, Min: -2, Max: -2}, api.Agg{At: 299, Count: 1, Sum: 9, Min: 9, Max: 9},
		api.Agg{At: 300, Count: 1, Sum: 4, Min: 4, Max: 4}, api.Agg{At: 301, Count: 1, Sum: 4, Min: 4, Max: 4}, api.Agg{At: 3599, Count: 1, Sum: -6, Min: -6, Max: -6},
		api.Agg{At: 3600, Count: 1, Sum: 8, Min: 8, Max: 8}, api.Agg{At: 7199, Count: 1, Sum: 1, Min: 1, Max: 1}, api.Agg{At: 10800, Count: 1})
	checkPoints(t, api.Mid, l,
		api.Agg{At: 0, Count: 3, Sum: 12, Min: -2, Max: 9}, api.Agg{At: 300, Count: 2, Sum: 8, Min: 4, Max: 4}, api.Agg{At: 3300, Count: 1, Sum: -6, Min: -6, Max: -6},
		api.Agg{At: 3600, Count: 1, Sum: 8, Min: 8, Max: 8}, api.Agg{At: 6900, Count: 1, Sum: 1, Min: 1, Max: 1}, api.Agg{At: 10800, Count: 1})
	checkPoints(t, api.Long, l,
		api.Agg{At: 0, Count: 6, Sum: 14, Min: -6, Max: 9}, api.Agg{At: 3600, Count: 2, Sum: 9, Min: 1, Max: 8}, api.Agg{At: 10800, Count: 1})
}

// P15.1: of aggregates, by windows that are written by hand.
func TestAggsKnown(t *testing.T) {
	l := []api.Agg{{At: 0, Count: 2, Sum: 5, Min: 1, Max: 4}, {At: 300, Count: 1, Sum: -7, Min: -7, Max: -7}, {At: 3300, Count: 3, Sum: 30, Min: 9, Max: 11}, {At: 3600, Count: 4, Sum: 0, Min: -1, Max: 1}, {At: 3700, Count: 5, Sum: 5, Min: 1, Max: 1}, {At: 14400, Count: 6, Sum: -6, Min: -1, Max: -1}}
	checkAggs(t, api.Raw, l, l...)
	checkAggs(t, api.Mid, l,
		l[0], l[1], l[2], api.Agg{At: 3600, Count: 9, Sum: 5, Min: -1, Max: 1}, l[5])
	checkAggs(t, api.Long, l,
		api.Agg{At: 0, Count: 6, Sum: 28, Min: -7, Max: 11}, api.Agg{At: 3600, Count: 9, Sum: 5, Min: -1, Max: 1}, l[5])
	// What begins amid a window is told by where the window does.
	checkAggs(t, api.Mid, []api.Agg{{At: 299, Count: 1, Sum: 2, Min: 2, Max: 2}, {At: 301, Count: 1, Sum: 3, Min: 3, Max: 3}},
		api.Agg{At: 0, Count: 1, Sum: 2, Min: 2, Max: 2}, api.Agg{At: 300, Count: 1, Sum: 3, Min: 3, Max: 3})
}

// P15.1: of no tier nothing.
func TestNoTier(t *testing.T) {
	for _, tier := range noTiers() {
		checkPoints(t, tier, nil)
		checkPoints(t, tier, points(0))
		checkPoints(t, tier, points(0, 300, 3600))
		checkPoints(t, tier, points(5, 3, -1))
		checkAggs(t, tier, nil)
		checkAggs(t, tier, aggs(0))
		checkAggs(t, tier, aggs(0, 300, 3600))
		checkAggs(t, tier, aggs(5, 3, -1))
	}
	for tier := -1000; tier <= 1000; tier++ {
		got, is := len(roll.Points(tier, points(0, 7200))) > 0, tiers[tier] > 0
		if got != is {
			t.Fatalf("Points of the tier %d: %v", tier, got)
		}
		if got := len(roll.Aggs(tier, aggs(0, 7200))) > 0; got != is {
			t.Fatalf("Aggs of the tier %d: %v", tier, got)
		}
	}
	checkPoints(t, api.Tiers, points(0))
	checkAggs(t, api.Tiers, aggs(0))
}

// P15.1: of nothing nothing.
func TestOfNothing(t *testing.T) {
	for tier := range tiers {
		checkPoints(t, tier, nil)
		checkPoints(t, tier, []api.Point{})
		checkPoints(t, tier, points(5, 6)[:0])
		checkAggs(t, tier, nil)
		checkAggs(t, tier, []api.Agg{})
		checkAggs(t, tier, aggs(5, 6)[:0])
	}
}

// checkTicks holds points, and aggregates, of these ticks to the plain tables.
func checkTicks(t *testing.T, tier int, ticks []int64) {
	t.Helper()
	p, a := points(ticks...), aggs(ticks...)
	checkPoints(t, tier, p, grouped(tier, ones(p))...)
	checkAggs(t, tier, a, grouped(tier, a)...)
}

// P15.1: ticks that don't rise, or are below 0, tell nothing, wherever they stand, and whatever stands beside them.
func TestTicksThatDontRise(t *testing.T) {
	good := []int64{10, 20, 310, 320, 3700, 3800, 7300}
	for tier := range tiers {
		if len(roll.Points(tier, points(good...))) == 0 || len(roll.Aggs(tier, aggs(good...))) == 0 {
			t.Fatalf("tier %d: nothing of ticks that rise", tier)
		}
		none := func(ticks []int64) {
			t.Helper()
			checkPoints(t, tier, points(ticks...))
			checkAggs(t, tier, aggs(ticks...))
		}
		for i, at := range good {
			// Two alike, and one less behind it, by one or by much.
			none(slices.Insert(slices.Clone(good), i, at))
			none(slices.Insert(slices.Clone(good), i+1, at-1))
			none(slices.Insert(slices.Clone(good), i+1, 0))
			// Below 0.
			for _, below := range []int64{-1, -2, -299, -300, -301, -3600, -maxTime, least, least + 1} {
				none(slices.Insert(slices.Clone(good), i, below))
				none(slices.Insert(slices.Clone(good), i+1, below))
				l := slices.Clone(good)
				l[i] = below
				none(l)
			}
		}
		none([]int64{-1})
		none([]int64{least})
		none([]int64{-2, -1})
		none([]int64{least, greatest})
		none([]int64{-300, 0, 300})
		none([]int64{-1, 0})
		none([]int64{0, 0})
		none([]int64{1, 0})
		none([]int64{greatest, greatest})
		none([]int64{greatest, greatest - 1})
		none([]int64{greatest, 0})
		none([]int64{greatest, least})
		none([]int64{7, 7, 7})
		none([]int64{3, 2, 1})
		checkPoints(t, tier, points(0), api.Agg{At: 0, Count: 1, Sum: 10, Min: 10, Max: 10})
		checkAggs(t, tier, aggs(0), api.Agg{At: 0, Count: 1, Sum: 5, Min: 3, Max: 40})
	}
}

// P15.1: all lists of up to five ticks, near 0 and at windows' edges, in any order.
func TestAllSmallTicks(t *testing.T) {
	for _, ticks := range rows(5, []int64{-1, 0, 1, 299, 300, 3600}) {
		for tier := -1; tier <= 3; tier++ {
			checkTicks(t, tier, ticks)
		}
	}
}

// P15.1: all sets of ticks at windows' first and last ones, and beside them, by a plain loop over windows; some windows are empty.
func TestAllSetsOfEdges(t *testing.T) {
	edges := []int64{0, 1, 299, 300, 301, 599, 600, 3599, 3600, 7199, 7200}
	for set := range 1 << len(edges) {
		var ticks []int64
		for i, at := range edges {
			if set>>i&1 == 1 {
				ticks = append(ticks, at)
			}
		}
		p, a := points(ticks...), aggs(ticks...)
		for tier := 1; tier <= 2; tier++ {
			checkPoints(t, tier, p, looped(tier, ones(p))...)
			checkAggs(t, tier, a, looped(tier, a)...)
		}
		checkPoints(t, api.Raw, p, ones(p)...)
		checkAggs(t, api.Raw, a, a...)
	}
}

// P15.1: each tick of some windows alone, and beside the next one.
func TestTickByTick(t *testing.T) {
	for at := range int64(8000) {
		for tier, width := range tiers {
			start := at - at%width
			checkPoints(t, tier, points(at), api.Agg{At: start, Count: 1, Sum: 10, Min: 10, Max: 10})
			one, next := api.Agg{At: start, Count: 1, Sum: 10, Min: 10, Max: 10}, api.Agg{At: at + 1, Count: 1, Sum: 11, Min: 11, Max: 11}
			if (at+1)%width == 0 {
				checkPoints(t, tier, points(at, at+1), one, next)
			} else {
				checkPoints(t, tier, points(at, at+1), api.Agg{At: start, Count: 2, Sum: 21, Min: 10, Max: 11})
			}
		}
	}
}

// P15.1: ticks far above MaxTime, and up to the greatest number, have windows, too.
func TestFarTicks(t *testing.T) {
	for _, ticks := range [][]int64{
		{maxTime - 1, maxTime, maxTime + 1, maxTime + 300},
		{maxTime}, {maxTime + 1},
		{0, maxTime, 1 << 41, 1 << 53, 1 << 62, greatest},
		{greatest - 3600, greatest - 300, greatest - 8, greatest - 7, greatest - 6, greatest - 1, greatest},
		{greatest - 1}, {greatest}, {0, greatest}, {greatest - 1, greatest}, {greatest - 7, greatest}, {greatest - 8, greatest},
		{9223372036854774000 - 1, 9223372036854774000, 9223372036854774001, 9223372036854775499, 9223372036854775500, 9223372036854775799, 9223372036854775800, 9223372036854775801, greatest},
	} {
		for tier := range tiers {
			checkTicks(t, tier, ticks)
		}
	}
	l := []api.Point{{At: 9223372036854775799, Value: 2}, {At: 9223372036854775800, Value: 3}, {At: greatest, Value: 4}}
	checkPoints(t, api.Raw, l, ones(l)...)
	checkPoints(t, api.Mid, l, api.Agg{At: 9223372036854775500, Count: 1, Sum: 2, Min: 2, Max: 2}, api.Agg{At: 9223372036854775800, Count: 2, Sum: 7, Min: 3, Max: 4})
	checkPoints(t, api.Long, l, api.Agg{At: 9223372036854774000, Count: 3, Sum: 9, Min: 2, Max: 4})
	checkAggs(t, api.Mid, ones(l), api.Agg{At: 9223372036854775500, Count: 1, Sum: 2, Min: 2, Max: 2}, api.Agg{At: 9223372036854775800, Count: 2, Sum: 7, Min: 3, Max: 4})
	checkAggs(t, api.Long, ones(l), api.Agg{At: 9223372036854774000, Count: 3, Sum: 9, Min: 2, Max: 4})
}

// P15.1: many points, all in one window or each in its own.
func TestManyPoints(t *testing.T) {
	for _, n := range []int{299, 300, 301, 3600, 3601, 20000} {
		for _, step := range []int64{1, 2, 7, 299, 300, 301, 3599, 3600, 3601, 100000} {
			l := row(n, 0, step, -9)
			for tier := range tiers {
				checkPoints(t, tier, l, grouped(tier, ones(l))...)
				checkAggs(t, tier, ones(l), grouped(tier, ones(l))...)
			}
		}
	}
	checkPoints(t, api.Mid, row(300, 600, 1, 1), api.Agg{At: 600, Count: 300, Sum: 45150, Min: 1, Max: 300})
	checkPoints(t, api.Mid, row(300, 601, 1, 1), api.Agg{At: 600, Count: 299, Sum: 44850, Min: 1, Max: 299}, api.Agg{At: 900, Count: 1, Sum: 300, Min: 300, Max: 300})
	checkPoints(t, api.Long, row(3600, 7200, 1, 1), api.Agg{At: 7200, Count: 3600, Sum: 6481800, Min: 1, Max: 3600})
	checkPoints(t, api.Long, row(3600, 7199, 1, 1), api.Agg{At: 3600, Count: 1, Sum: 1, Min: 1, Max: 1}, api.Agg{At: 7200, Count: 3599, Sum: 6481799, Min: 2, Max: 3600})
	checkPoints(t, api.Mid, row(3, 5, 300, 1), api.Agg{At: 0, Count: 1, Sum: 1, Min: 1, Max: 1}, api.Agg{At: 300, Count: 1, Sum: 2, Min: 2, Max: 2}, api.Agg{At: 600, Count: 1, Sum: 3, Min: 3, Max: 3})
}

// P15.1: each window's sum saturates on its own.
func TestWindowsSaturate(t *testing.T) {
	l := []api.Point{{At: 1, Value: greatest}, {At: 2, Value: 1}, {At: 3, Value: -1}, {At: 300, Value: least}, {At: 301, Value: -1}, {At: 302, Value: 1}, {At: 600, Value: 5}}
	checkPoints(t, api.Mid, l,
		api.Agg{At: 0, Count: 3, Sum: greatest - 1, Min: -1, Max: greatest}, api.Agg{At: 300, Count: 3, Sum: least + 1, Min: least, Max: 1}, api.Agg{At: 600, Count: 1, Sum: 5, Min: 5, Max: 5})
	// By points and by windows of Mid it differs, since something saturates.
	checkPoints(t, api.Long, l, api.Agg{At: 0, Count: 7, Sum: 3, Min: least, Max: greatest})
	checkAggs(t, api.Long, roll.Points(api.Mid, l), api.Agg{At: 0, Count: 7, Sum: 4, Min: least, Max: greatest})
	checkAggs(t, api.Long, []api.Agg{{At: 0, Count: greatest, Sum: 1, Min: 1, Max: 1}, {At: 300, Count: 1, Sum: 1, Min: 1, Max: 1}, {At: 3600, Count: 2, Sum: 2, Min: 1, Max: 1}},
		api.Agg{At: 0, Count: greatest, Sum: 2, Min: 1, Max: 1}, api.Agg{At: 3600, Count: 2, Sum: 2, Min: 1, Max: 1})
}

// P15.1: aggregates without values don't count; of a window that has no others nothing is told, and they have to rise as others do.
func TestAggsWithout(t *testing.T) {
	with := api.Agg{Count: 2, Sum: 7, Min: 3, Max: 4}
	at := func(a api.Agg, at int64) api.Agg {
		a.At = at
		return a
	}
	for _, none := range without(0) {
		for tier := range tiers {
			checkAggs(t, tier, []api.Agg{none})
			checkAggs(t, tier, []api.Agg{at(none, 5), at(none, 6), at(none, 400), at(none, greatest)})
			checkAggs(t, tier, []api.Agg{none, at(with, 7200)}, at(with, 7200))
			checkAggs(t, tier, []api.Agg{with, at(none, 7200)}, with)
			checkAggs(t, tier, []api.Agg{with, at(none, 7200), at(with, 14400)}, with, at(with, 14400))
			checkAggs(t, tier, []api.Agg{at(with, 5), at(none, 4)})
			checkAggs(t, tier, []api.Agg{at(with, 5), at(none, 5)})
			checkAggs(t, tier, []api.Agg{at(none, 5), at(with, 5)})
			checkAggs(t, tier, []api.Agg{at(none, -1), at(with, 5)})
			checkAggs(t, tier, []api.Agg{at(with, 5), at(none, 4000), at(with, 3000)})
		}
		both := api.Agg{Count: 4, Sum: 14, Min: 3, Max: 4}
		checkAggs(t, api.Mid, []api.Agg{none, at(with, 1)}, with)
		checkAggs(t, api.Mid, []api.Agg{with, at(none, 1)}, with)
		checkAggs(t, api.Mid, []api.Agg{at(with, 1), at(none, 2), at(with, 299), at(none, 300), at(none, 301)}, both)
		checkAggs(t, api.Long, []api.Agg{at(none, 0), at(with, 300), at(with, 600), at(none, 900), at(none, 3600)}, both)
	}
}

// P15.1: up to five aggregates of two kinds, with and without values, in up to two windows.
func TestAggsAllSmall(t *testing.T) {
	for _, which := range rows(5, []int{0, 1, 5, 6}) {
		var l []api.Agg
		for i, n := range which {
			l = append(l, kinds(int64(i) * 150)[n])
		}
		for tier := range tiers {
			checkAggs(t, tier, l, grouped(tier, l)...)
		}
	}
}

// P15.1
func TestRight(t *testing.T) {
	for _, x := range []struct {
		count, min, max int64
		want            bool
	}{
		{1, 0, 0, true}, {1, 5, 5, true}, {1, -5, 5, true}, {1, 5, 6, true}, {1, 5, 4, false}, {1, 1, 0, false}, {1, 0, -1, false}, {1, 5, -5, false},
		{0, 0, 0, false}, {0, -5, 5, false}, {0, 5, 4, false}, {-1, 0, 0, false}, {-1, -5, 5, false}, {-1, 5, -5, false}, {2, 1, 2, true}, {2, 2, 1, false},
		{least, 0, 0, false}, {least + 1, 0, 1, false}, {greatest, 0, 0, true}, {greatest, 1, 0, false}, {-1 << 32, 0, 0, false}, {1 << 32, 0, 0, true}, {1<<63 - 1, 7, 8, true},
		{1, least, greatest, true}, {1, greatest, least, false}, {1, least, least, true}, {1, greatest, greatest, true}, {1, least, least + 1, true}, {1, least + 1, least, false},
		{1, greatest - 1, greatest, true}, {1, greatest, greatest - 1, false}, {1, least, 0, true}, {1, 0, least, false}, {1, 0, greatest, true}, {1, greatest, 0, false},
	} {
		// Where it begins, and its sum, don't matter.
		for _, n := range ends() {
			if got := roll.Right(api.Agg{At: n, Count: x.count, Sum: -n, Min: x.min, Max: x.max}); got != x.want {
				t.Fatalf("Right of %d values, %d to %d, with %d: %v", x.count, x.min, x.max, n, got)
			}
		}
	}
	for _, count := range ends() {
		for _, a := range ends() {
			for _, b := range ends() {
				if got := roll.Right(api.Agg{Count: count, Min: a, Max: b}); got != (count >= 1 && a <= b) {
					t.Fatalf("Right of %d values, %d to %d: %v", count, a, b, got)
				}
			}
		}
	}
}

// P15.1: what Of, Add, Join, Points and Aggs tell of what is right is right.
func TestToldIsRight(t *testing.T) {
	for _, l := range rows(3, []int64{least, -1, 0, 1, greatest}) {
		if a, ok := roll.Of(0, values(l...)); ok != roll.Right(a) {
			t.Fatalf("Of %v: %v, right: %v", l, a, roll.Right(a))
		}
	}
	for _, l := range rows(3, kinds(0)[:8]) {
		if a, ok := roll.Join(0, l); ok != roll.Right(a) {
			t.Fatalf("Join of %v: %v, right: %v", l, a, roll.Right(a))
		}
	}
}

// P15.1: means as they are written by hand, rounded down on both sides of 0.
func TestMeanKnown(t *testing.T) {
	for _, x := range []struct{ count, sum, want int64 }{
		{1, 0, 0}, {1, 5, 5}, {1, -5, -5}, {1, greatest, greatest}, {1, least, least}, {1, least + 1, least + 1},
		{2, 0, 0}, {2, 1, 0}, {2, 2, 1}, {2, 3, 1}, {2, 4, 2}, {2, -1, -1}, {2, -2, -1}, {2, -3, -2}, {2, -4, -2}, {2, -5, -3},
		{3, 6, 2}, {3, 7, 2}, {3, 8, 2}, {3, 9, 3}, {3, -6, -2}, {3, -7, -3}, {3, -8, -3}, {3, -9, -3}, {3, -1, -1}, {3, -2, -1}, {3, 1, 0}, {3, 2, 0},
		{2, greatest, 1<<62 - 1}, {2, greatest - 1, 1<<62 - 1}, {2, least, -1 << 62}, {2, least + 1, -1 << 62}, {2, least + 2, -1<<62 + 1},
		{10, 99, 9}, {10, -99, -10}, {10, -91, -10}, {10, -90, -9},
		{greatest, greatest, 1}, {greatest, greatest - 1, 0}, {greatest, 1, 0}, {greatest, 0, 0}, {greatest, -1, -1}, {greatest, -greatest, -1}, {greatest, least, -2}, {greatest, least + 2, -1},
		{greatest - 1, greatest, 1}, {greatest - 1, greatest - 1, 1}, {greatest - 1, greatest - 2, 0}, {greatest - 1, least, -2}, {greatest - 1, least + 2, -1}, {greatest - 1, least + 1, -2},
		{7, greatest, 1317624576693539401}, {7, greatest - 1, 1317624576693539400}, {7, least, -1317624576693539402}, {7, least + 1, -1317624576693539401},
	} {
		checkMean(t, x.count, x.sum, x.want)
	}
}

// P15.1: without values the mean is 0.
func TestMeanOfNone(t *testing.T) {
	for _, count := range []int64{0, -1, -2, -3, -1 << 32, least, least + 1} {
		for _, sum := range ends() {
			checkMean(t, count, sum, 0)
		}
	}
}

// P15.1: the mean is the greatest number that, as often as there are values, isn't above the sum; by numbers without bounds.
func TestMeanByBounds(t *testing.T) {
	check := func(count, sum int64) {
		t.Helper()
		mean := big.NewInt(roll.Mean(api.Agg{Count: count, Sum: sum}))
		rest := new(big.Int).Sub(big.NewInt(sum), new(big.Int).Mul(mean, big.NewInt(count)))
		if rest.Sign() < 0 || rest.Cmp(big.NewInt(count)) >= 0 {
			t.Fatalf("Mean of %d values, sum %d: %v", count, sum, mean)
		}
	}
	for count := int64(1); count <= 60; count++ {
		for sum := int64(-500); sum <= 500; sum++ {
			check(count, sum)
		}
	}
	for _, count := range ends() {
		for _, sum := range ends() {
			if count > 0 {
				check(count, sum)
			}
		}
	}
	r := rand.New(rand.NewSource(15))
	for range 100000 {
		check(1+r.Int63()>>r.Intn(63), int64(r.Uint64())>>r.Intn(64))
	}
}

// rising is n points by chance, their ticks rising.
func rising(r *rand.Rand, n int, spread int64, value func() int64) []api.Point {
	ticks := map[int64]int64{}
	for range n {
		ticks[r.Int63n(spread)] = value()
	}
	var l []api.Point
	for _, at := range slices.Sorted(maps.Keys(ticks)) {
		l = append(l, api.Point{At: at, Value: ticks[at]})
	}
	return l
}

// P15.2: where nothing saturates, wide windows come to the same by points and by narrow windows, for each pair of tiers.
func TestWideByNarrow(t *testing.T) {
	for seed := range int64(400) {
		r := rand.New(rand.NewSource(seed))
		spread := []int64{300, 4000, 50000, maxTime, greatest}[seed%5]
		l := rising(r, r.Intn(300), spread, func() int64 { return int64(r.Uint64()) >> (10 + r.Intn(54)) })
		for wide := range tiers {
			want := grouped(wide, ones(l))
			checkPoints(t, wide, l, want...)
			for narrow := range wide + 1 {
				checkAggs(t, wide, roll.Points(narrow, l), want...)
			}
		}
		checkAggs(t, api.Long, roll.Aggs(api.Mid, roll.Points(api.Raw, l)), roll.Points(api.Long, l)...)
		checkAggs(t, api.Long, roll.Aggs(api.Long, roll.Points(api.Mid, l)), roll.Points(api.Long, l)...)
	}
}

// P15.2: at the ends, where sums just don't saturate.
func TestWideByNarrowAtEnds(t *testing.T) {
	for _, l := range [][]api.Point{
		{{At: 0, Value: greatest - 3}, {At: 299, Value: 1}, {At: 300, Value: 1}, {At: 3599, Value: 1}},
		{{At: 0, Value: least + 3}, {At: 299, Value: -1}, {At: 300, Value: -1}, {At: 3599, Value: -1}},
		{{At: 0, Value: greatest}, {At: 299, Value: least}, {At: 300, Value: greatest}, {At: 3599, Value: 0}},
		{{At: greatest - 4000, Value: greatest}, {At: greatest - 300, Value: -5}, {At: greatest - 1, Value: 4}, {At: greatest, Value: least}},
	} {
		for wide := range tiers {
			for narrow := range wide + 1 {
				checkAggs(t, wide, roll.Points(narrow, l), roll.Points(wide, l)...)
			}
		}
	}
}

// P15.1: lists by chance, of ticks that mostly rise and of values at both ends, each as the plain tables tell it.
func TestByChance(t *testing.T) {
	told, none := 0, 0
	for seed := range int64(3000) {
		r := rand.New(rand.NewSource(seed))
		spread := []int64{600, 8000, 100000, maxTime, greatest}[seed%5]
		number := func() int64 {
			if r.Intn(4) == 0 {
				return ends()[r.Intn(len(ends()))]
			}
			return int64(r.Uint64()) >> r.Intn(64)
		}
		p := rising(r, r.Intn(1<<r.Intn(9)), spread, number)
		if len(p) > 0 && r.Intn(10) == 0 {
			p[r.Intn(len(p))].At = number()
		}
		var a []api.Agg
		for _, x := range p {
			a = append(a, api.Agg{At: x.At, Count: number(), Sum: number(), Min: number(), Max: number()})
		}
		at := number()
		want, ok := joined(at, ones(p))
		checkOf(t, at, p, want, ok)
		want, ok = joined(at, a)
		checkJoin(t, at, a, want, ok)
		for tier := -1; tier <= 3; tier++ {
			checkPoints(t, tier, p, grouped(tier, ones(p))...)
			checkAggs(t, tier, a, grouped(tier, a)...)
		}
		if len(p) > 0 && rises(ones(p)) {
			told++
		} else if len(p) > 0 {
			none++
		}
	}
	if told < 1000 || none < 100 {
		t.Fatalf("too few of one kind: %d, %d", told, none)
	}
}

// spare is a list with room behind it, in which marks stand, and the whole of it.
func spare[T any](l []T, mark T) (list, room []T) {
	room = append(slices.Clone(l), slices.Repeat([]T{mark}, 9)...)
	return room[:len(l)], room
}

// grounds are rows of ticks of all kinds.
func grounds() [][]int64 {
	return [][]int64{nil, {5}, {1, 2, 3}, {0, 299, 300, 3600}, {0, 300, 600, 900, 7200}, {3, 2, 1}, {5, 5}, {-1, 5}, {greatest - 1, greatest}}
}

// P15.2, R4: what is handed in isn't changed, its spare room neither, nor its order.
func TestHandedInStays(t *testing.T) {
	for _, ticks := range grounds() {
		p, proom := spare(points(ticks...), api.Point{At: -77, Value: -78})
		a, aroom := spare(aggs(ticks...), api.Agg{At: -77, Count: -78, Sum: -79})
		if len(a) > 1 {
			a[1].Count = 0
		}
		pwas, awas := slices.Clone(proom), slices.Clone(aroom)
		for tier := -1; tier <= 3; tier++ {
			roll.Of(7, p)
			roll.Join(7, a)
			// Also what is told is changed and added to.
			for _, l := range [][]api.Agg{roll.Points(tier, p), roll.Aggs(tier, a)} {
				for i := range l {
					l[i] = api.Agg{At: -5, Count: -5}
				}
				_ = append(l, aggs(-1, -2)...)
			}
		}
		if !slices.Equal(proom, pwas) {
			t.Fatalf("handed in: %v, was %v", proom, pwas)
		}
		if !slices.Equal(aroom, awas) {
			t.Fatalf("handed in: %v, was %v", aroom, awas)
		}
	}
}

// P15.2, R4: what was handed in may be changed, and what was told stays, and is told again of the same.
func TestHandedInIsNotKept(t *testing.T) {
	for _, ticks := range grounds() {
		for tier := range tiers {
			p, proom := spare(points(ticks...), api.Point{At: -77})
			a, aroom := spare(aggs(ticks...), api.Agg{At: -77})
			fromPoints, fromAggs := roll.Points(tier, p), roll.Aggs(tier, a)
			for i := range proom {
				proom[i] = api.Point{At: int64(i) * 11, Value: -5}
				aroom[i] = api.Agg{At: int64(i) * 11, Count: -5}
			}
			wantPoints, wantAggs := grouped(tier, ones(points(ticks...))), grouped(tier, aggs(ticks...))
			if !slices.Equal(fromPoints, wantPoints) || !slices.Equal(fromAggs, wantAggs) {
				t.Fatalf("told of %v: %v, %v", ticks, fromPoints, fromAggs)
			}
			checkPoints(t, tier, points(ticks...), wantPoints...)
			checkAggs(t, tier, aggs(ticks...), wantAggs...)
		}
	}
}

// P15.2, R4: what was told may be changed, and added to, its spare room too, and nothing is told otherwise behind it.
func TestToldIsNewMemory(t *testing.T) {
	for n := range 20 {
		var ticks []int64
		for i := range n {
			ticks = append(ticks, int64(i)*3600)
		}
		for tier := range tiers {
			for _, tell := range []func() []api.Agg{
				func() []api.Agg { return roll.Points(tier, points(ticks...)) },
				func() []api.Agg { return roll.Aggs(tier, aggs(ticks...)) },
			} {
				first, second := tell(), tell()
				want := slices.Clone(first)
				if len(want) != n {
					t.Fatalf("%d of %d", len(want), n)
				}
				_ = append(first, aggs(-1, -2, -3)...)
				for i := range first {
					first[i] = api.Agg{At: -5}
				}
				for room := first[:cap(first)]; len(room) > 0; room = room[1:] {
					room[0] = api.Agg{At: -7, Count: -8}
				}
				if !slices.Equal(second, want) || !slices.Equal(tell(), want) {
					t.Fatalf("behind a change: %v, %v, want %v", second, tell(), want)
				}
				// An answer may be handed in; what is told of it is memory of its own.
				again := roll.Aggs(tier, second)
				for i := range second {
					second[i] = api.Agg{At: -9}
				}
				if !slices.Equal(again, want) {
					t.Fatalf("behind a change of what was handed in: %v, want %v", again, want)
				}
			}
		}
	}
}
