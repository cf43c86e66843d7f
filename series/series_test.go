package series_test

import (
	"iter"
	"maps"
	"math"
	"math/rand"
	"slices"
	"testing"

	"catacomb/api"
	"catacomb/series"
)

const (
	maxTime  = 1099511627776 // 2 to the power of 40
	most     = 256           // points of a series
	greatest = math.MaxInt64
	least    = math.MinInt64
)

// whole is a range of all ticks that may be put, and wide one of all numbers but the greatest.
var (
	whole = api.Range{From: 0, To: maxTime + 1}
	wide  = api.Range{From: least, To: greatest}
)

// outside are numbers that are no ticks of a series.
func outside() []int64 {
	return []int64{-1, -2, -255, -256, -257, -300, -1 << 31, -1 << 32, -maxTime - 1, -maxTime, -maxTime + 1, least, least + 1, maxTime + 1, maxTime + 2, maxTime + 300, 2 * maxTime, 2*maxTime + 1, 1 << 53, 1 << 62, greatest - 1, greatest}
}

// values are numbers of all kinds, those at both ends too.
func values() []int64 {
	return []int64{0, 1, -1, 7, -7, 255, 256, 1 << 32, -1 << 32, maxTime, maxTime + 1, least, least + 1, greatest, greatest - 1}
}

// table is a plain table of ticks and values.
type table map[int64]int64

// rows is the table's points of ticks that are asked for, rising.
func (b table) rows(want func(at int64) bool) []api.Point {
	var l []api.Point
	for _, at := range slices.Sorted(maps.Keys(b)) {
		if want(at) {
			l = append(l, api.Point{At: at, Value: b[at]})
		}
	}
	return l
}

// all is all of its points.
func (b table) all() []api.Point { return b.rows(func(int64) bool { return true }) }

// in is those of a range.
func (b table) in(r api.Range) []api.Point {
	return b.rows(func(at int64) bool { return r.From <= at && at < r.To })
}

// put is what a put of these tells, and the table behind it.
func (b table) put(l []api.Point) (table, int, api.Errno) {
	next := maps.Clone(b)
	for _, p := range l {
		if p.At < 0 || p.At > maxTime {
			return b, 0, api.ErrRange
		}
		next[p.At] = p.Value
	}
	if len(next) > most {
		return b, 0, api.ErrFull
	}
	return next, len(next) - len(b), api.OK
}

// free is how many ticks of these the table hasn't.
func (b table) free(l []api.Point) int {
	ticks := map[int64]int{}
	for _, p := range l {
		if _, there := b[p.At]; !there {
			ticks[p.At]++
		}
	}
	return len(ticks)
}

// cut is the table without a range.
func (b table) cut(r api.Range) table {
	next := table{}
	for at, value := range b {
		if at < r.From || at >= r.To {
			next[at] = value
		}
	}
	return next
}

// points are those of some ticks, their values 10, 11 and so on.
func points(ticks ...int64) []api.Point {
	var l []api.Point
	for i, at := range ticks {
		l = append(l, api.Point{At: at, Value: int64(i) + 10})
	}
	return l
}

// row is n points, at from, from and step, and so on, of values beside their numbers.
func row(n int, from, step, value int64) []api.Point {
	var l []api.Point
	for i := range int64(n) {
		l = append(l, api.Point{At: from + i*step, Value: value + i})
	}
	return l
}

// turned is a list, its last item first.
func turned(l []api.Point) []api.Point {
	l = slices.Clone(l)
	slices.Reverse(l)
	return l
}

// short is a list, as far as it is told beside a fault.
func short(l []api.Point) []api.Point { return l[:min(len(l), 9)] }

func checkPut(t *testing.T, s *series.Series, l []api.Point, fresh int, want api.Errno) {
	t.Helper()
	n, e := s.Put(l)
	if n != fresh || e != want {
		t.Fatalf("Put of %v (%d): %d, %d, want %d, %d", short(l), len(l), n, int(e), fresh, int(want))
	}
}

func checkFree(t *testing.T, s *series.Series, l []api.Point, want int) {
	t.Helper()
	if n := s.Free(l); n != want {
		t.Fatalf("Free of %v (%d): %d, want %d", short(l), len(l), n, want)
	}
}

func checkList(t *testing.T, what string, got, want []api.Point) {
	t.Helper()
	if !slices.Equal(got, want) {
		t.Fatalf("%s: %v (%d), want %v (%d)", what, short(got), len(got), short(want), len(want))
	}
}

func checkRange(t *testing.T, s *series.Series, r api.Range, want []api.Point) {
	t.Helper()
	if got := s.Get(r); !slices.Equal(got, want) {
		t.Fatalf("Get(%v): %v (%d), want %v (%d)", r, short(got), len(got), short(want), len(want))
	}
	if n := s.Count(r); n != len(want) {
		t.Fatalf("Count(%v): %d, want %d", r, n, len(want))
	}
}

func checkCut(t *testing.T, s *series.Series, r api.Range, want int) {
	t.Helper()
	if n := s.Cut(r); n != want {
		t.Fatalf("Cut(%v): %d, want %d", r, n, want)
	}
}

// checkEnd holds what First or Last tells: a point and true, or nothing.
func checkEnd(t *testing.T, what string, tell func() (api.Point, bool), want []api.Point) {
	t.Helper()
	p, ok := tell()
	if ok != (len(want) == 1) || ok && p != want[0] || !ok && p != (api.Point{}) {
		t.Fatalf("%s: %v, %v, want %v", what, p, ok, want)
	}
}

// checkHas holds all that a series tells of what it has.
func checkHas(t *testing.T, s *series.Series, want []api.Point) {
	t.Helper()
	if n := s.Len(); n != len(want) {
		t.Fatalf("Len: %d, want %d", n, len(want))
	}
	checkRange(t, s, whole, want)
	checkRange(t, s, wide, want)
	checkList(t, "All", slices.Collect(s.All()), want)
	checkEnd(t, "First", s.First, want[:min(1, len(want))])
	checkEnd(t, "Last", s.Last, want[max(0, len(want)-1):])
	checkFree(t, s, want, 0)
}

// made is a series of these, and the table of it.
func made(t *testing.T, l []api.Point) (*series.Series, table) {
	t.Helper()
	s := series.New()
	b, fresh, e := table{}.put(l)
	checkPut(t, s, l, fresh, e)
	checkHas(t, s, b.all())
	return s, b
}

// P14.1: the chapter's example.
func TestExample(t *testing.T) {
	s := series.New()
	checkPut(t, s, points(5, 3, 5), 2, api.OK)
	checkRange(t, s, api.Range{From: 0, To: 9}, []api.Point{{At: 3, Value: 11}, {At: 5, Value: 12}})
}

// P14.1: New has no points, and each is one of its own.
func TestNew(t *testing.T) {
	a, b := series.New(), series.New()
	checkHas(t, a, nil)
	checkPut(t, a, points(1), 1, api.OK)
	checkHas(t, b, nil)
	checkHas(t, series.New(), nil)
}

// P14.1: no points, be it as nil or as an empty list.
func TestPutNothing(t *testing.T) {
	for _, had := range [][]api.Point{nil, points(7), points(3, 5, maxTime), row(most, 0, 1, 0)} {
		s, b := made(t, had)
		for _, l := range [][]api.Point{nil, {}, make([]api.Point, 0, 9)} {
			checkPut(t, s, l, 0, api.OK)
			checkFree(t, s, l, 0)
			checkHas(t, s, b.all())
		}
	}
}

// orders is all orders of a list.
func orders(l []api.Point) [][]api.Point {
	if len(l) == 0 {
		return [][]api.Point{nil}
	}
	var all [][]api.Point
	for i := range l {
		for _, rest := range orders(slices.Delete(slices.Clone(l), i, i+1)) {
			all = append(all, append([]api.Point{l[i]}, rest...))
		}
	}
	return all
}

// P14.1, P14.2: points come in any order, in one call or in two, and are told rising.
func TestPutAnyOrder(t *testing.T) {
	want := []api.Point{{At: 0, Value: 5}, {At: 1, Value: -5}, {At: 299, Value: 0}, {At: 300, Value: greatest}, {At: maxTime - 1, Value: least}, {At: maxTime, Value: 5}}
	for _, l := range orders(want) {
		s, _ := made(t, l)
		checkHas(t, s, want)
		for i := range l {
			s, _ := made(t, l[:i])
			checkPut(t, s, l[i:], len(l)-i, api.OK)
			checkHas(t, s, want)
		}
	}
}

// P14.1: one tick twice, and three times: the last one counts.
func TestPutOneTickAgain(t *testing.T) {
	for _, x := range []struct {
		l     []api.Point
		fresh int
		want  []api.Point
	}{
		{[]api.Point{{At: 5, Value: 1}, {At: 5, Value: 2}}, 1, []api.Point{{At: 5, Value: 2}}},
		{[]api.Point{{At: 5, Value: 2}, {At: 5, Value: 1}}, 1, []api.Point{{At: 5, Value: 1}}},
		{[]api.Point{{At: 5, Value: 1}, {At: 5, Value: 1}}, 1, []api.Point{{At: 5, Value: 1}}},
		{[]api.Point{{At: 5, Value: 1}, {At: 5, Value: 3}, {At: 5, Value: 2}}, 1, []api.Point{{At: 5, Value: 2}}},
		{[]api.Point{{At: 5, Value: 3}, {At: 5, Value: 2}, {At: 5, Value: 1}}, 1, []api.Point{{At: 5, Value: 1}}},
		{[]api.Point{{At: 5, Value: 1}, {At: 5, Value: 2}, {At: 5, Value: 1}}, 1, []api.Point{{At: 5, Value: 1}}},
		{[]api.Point{{At: 5, Value: 1}, {At: 5, Value: 0}}, 1, []api.Point{{At: 5, Value: 0}}},
		{[]api.Point{{At: 5, Value: 1}, {At: 9, Value: 2}, {At: 5, Value: 3}}, 2, []api.Point{{At: 5, Value: 3}, {At: 9, Value: 2}}},
		{[]api.Point{{At: 9, Value: 1}, {At: 5, Value: 2}, {At: 9, Value: 3}, {At: 5, Value: 4}, {At: 9, Value: 5}}, 2, []api.Point{{At: 5, Value: 4}, {At: 9, Value: 5}}},
		{[]api.Point{{At: 0, Value: least}, {At: 0, Value: greatest}}, 1, []api.Point{{At: 0, Value: greatest}}},
		{[]api.Point{{At: maxTime, Value: greatest}, {At: maxTime, Value: least}}, 1, []api.Point{{At: maxTime, Value: least}}},
	} {
		s := series.New()
		checkFree(t, s, x.l, x.fresh)
		checkPut(t, s, x.l, x.fresh, api.OK)
		checkHas(t, s, x.want)
		checkPut(t, s, x.l, 0, api.OK)
		checkHas(t, s, x.want)
	}
}

// P14.1: of a tick that is there, with another value, none is new, and the last one counts.
func TestPutOverOthers(t *testing.T) {
	had := []api.Point{{At: 3, Value: 1}, {At: 5, Value: 2}, {At: 9, Value: 3}}
	for i, was := range had {
		for _, value := range values() {
			s, _ := made(t, had)
			want := slices.Clone(had)
			want[i].Value = value
			checkPut(t, s, []api.Point{{At: was.At, Value: value}}, 0, api.OK)
			checkHas(t, s, want)
			// Twice, and three times, in one call, with one that is new beside it.
			checkPut(t, s, []api.Point{{At: was.At, Value: 77}, {At: was.At, Value: value}}, 0, api.OK)
			checkHas(t, s, want)
			checkPut(t, s, []api.Point{{At: was.At, Value: 77}, {At: 100, Value: 4}, {At: was.At, Value: 78}, {At: was.At, Value: value}}, 1, api.OK)
			checkHas(t, s, append(want, api.Point{At: 100, Value: 4}))
		}
	}
}

// P14.2: each tick at the ends of what may be put is got with each value.
func TestPutTicksAndValues(t *testing.T) {
	for _, at := range []int64{0, 1, 2, 255, 256, 1<<31 - 1, 1 << 31, 1<<32 - 1, 1 << 32, maxTime - 1, maxTime} {
		for _, value := range values() {
			s, _ := made(t, []api.Point{{At: at, Value: value}})
			checkHas(t, s, []api.Point{{At: at, Value: value}})
			checkRange(t, s, api.Range{From: at, To: at + 1}, []api.Point{{At: at, Value: value}})
		}
	}
}

// P14.1: a tick outside, be it the first one, amid, or the last one, with one that is there or not: nothing is put.
func TestPutOutside(t *testing.T) {
	for _, at := range outside() {
		for _, had := range [][]api.Point{nil, points(0), points(maxTime), points(2, 3, 5), row(most, 0, 7, -3), row(most, maxTime-most+1, 1, 9)} {
			for _, value := range []int64{0, 5, -1} {
				wrong := api.Point{At: at, Value: value}
				s, b := made(t, had)
				for _, l := range [][]api.Point{
					{wrong}, {wrong, wrong},
					{wrong, {At: 3, Value: 8}}, {{At: 3, Value: 8}, wrong}, {{At: 3, Value: 8}, wrong, {At: 4, Value: 9}},
					{wrong, {At: 0, Value: 8}, {At: maxTime, Value: 9}}, {{At: 0, Value: 8}, {At: maxTime, Value: 9}, wrong}, {{At: maxTime, Value: 8}, wrong, {At: 0, Value: 9}},
					append(points(1, 2, 3, 4, 5, 6, 7, 8), wrong), append([]api.Point{wrong}, points(8, 7, 6, 5, 4, 3, 2, 1)...),
				} {
					checkPut(t, s, l, 0, api.ErrRange)
					checkHas(t, s, b.all())
				}
			}
		}
	}
}

// P14.1: where a tick is outside and there would be too many, ErrRange is told, wherever it stands.
func TestPutOutsideAheadOfFull(t *testing.T) {
	for _, n := range []int{most, most + 1, most + 2, 3 * most} {
		for _, at := range []int64{-1, maxTime + 1, least, greatest} {
			for _, i := range []int{0, 1, n / 2, most - 1, most, n - 1, n} {
				for _, had := range [][]api.Point{nil, points(maxTime), row(most, 1000000, 1, 0)} {
					s, b := made(t, had)
					l := slices.Insert(row(n, 1, 3, 5), min(i, n), api.Point{At: at})
					checkPut(t, s, l, 0, api.ErrRange)
					checkHas(t, s, b.all())
				}
			}
		}
	}
}

// P14.1: as many as there may be, in one call and in many; one more isn't put, whatever its place.
func TestPutUpToMost(t *testing.T) {
	full := row(most, 10, 10, -100)
	for _, l := range [][]api.Point{full, turned(full)} {
		for _, step := range []int{1, 2, 3, 85, 127, 128, 255, 256} {
			s := series.New()
			for part := range slices.Chunk(l, step) {
				checkPut(t, s, part, len(part), api.OK)
			}
			checkHas(t, s, full)
			for _, at := range []int64{0, 9, 11, 1285, 2559, 2561, maxTime} {
				checkPut(t, s, []api.Point{{At: at, Value: 1}}, 0, api.ErrFull)
				checkHas(t, s, full)
			}
		}
	}
}

// P14.1: one too many in one call, and as many beside those that are there.
func TestPutTooMany(t *testing.T) {
	for had := range most + 1 {
		for _, more := range []int{1, 2, most - had, most - had + 1, most - had + 2, most, most + 1, 2 * most} {
			// Ahead of those that are there, between them, and behind them.
			for _, l := range [][]api.Point{row(more, 0, 1, 3), row(more, 1005, 10, 3), row(more, 100000, 1, 3)} {
				s, b := made(t, row(had, 1000, 10, 0))
				if had+more <= most {
					next, _, _ := b.put(l)
					checkFree(t, s, l, more)
					checkPut(t, s, l, more, api.OK)
					checkHas(t, s, next.all())
					continue
				}
				for _, l := range [][]api.Point{l, turned(l)} {
					checkFree(t, s, l, more)
					checkPut(t, s, l, 0, api.ErrFull)
					checkHas(t, s, b.all())
				}
			}
		}
	}
}

// P14.1: only unlike ticks count against the room: where all but one are there, only that one does.
func TestPutManyThatAreThere(t *testing.T) {
	full := row(most, 10, 10, 0)
	again := row(most, 10, 10, 1000)
	for i, one := range again {
		// Full, and its own points with other values.
		s, _ := made(t, full)
		checkPut(t, s, []api.Point{one}, 0, api.OK)
		checkPut(t, s, again, 0, api.OK)
		checkHas(t, s, again)
		checkPut(t, s, turned(full), 0, api.OK)
		checkHas(t, s, full)
		// One more than its own: nothing is put, of its own neither.
		more := api.Point{At: int64(i)*10 + 5, Value: 7}
		checkPut(t, s, slices.Insert(slices.Clone(again), i, more), 0, api.ErrFull)
		checkPut(t, s, append(slices.Clone(again), more), 0, api.ErrFull)
		checkHas(t, s, full)
		// All but one are there.
		s, _ = made(t, slices.Delete(slices.Clone(full), i, i+1))
		checkFree(t, s, again, 1)
		checkPut(t, s, again, 1, api.OK)
		checkHas(t, s, again)
	}
}

// P14.1: long lists of few ticks go in; one tick too many, the last one of them, and none does.
func TestPutLongLists(t *testing.T) {
	var l []api.Point
	for i := range int64(20 * most) {
		l = append(l, api.Point{At: i * 7 % most, Value: i})
	}
	s, b := made(t, l)
	if len(b) != most {
		t.Fatalf("%d ticks", len(b))
	}
	checkPut(t, s, turned(l), 0, api.OK)
	next, _, _ := b.put(turned(l))
	checkHas(t, s, next.all())
	s = series.New()
	checkPut(t, s, append(slices.Clone(l), api.Point{At: most}), 0, api.ErrFull)
	checkHas(t, s, nil)
	checkPut(t, s, append(slices.Clone(l), api.Point{At: maxTime + 1}), 0, api.ErrRange)
	checkHas(t, s, nil)
	checkPut(t, s, l, most, api.OK)
	checkHas(t, s, b.all())
}

// P14.1: behind an error as much goes in as ahead of it.
func TestPutBehindErrors(t *testing.T) {
	s, b := made(t, row(most-1, 10, 10, 0))
	checkPut(t, s, points(1, 2), 0, api.ErrFull)
	checkPut(t, s, points(1, -1), 0, api.ErrRange)
	checkPut(t, s, points(10, 1, 2), 0, api.ErrFull)
	checkHas(t, s, b.all())
	checkPut(t, s, points(1, 1, 1), 1, api.OK)
	b[1] = 12
	checkHas(t, s, b.all())
	checkPut(t, s, points(10, 2), 0, api.ErrFull)
	checkCut(t, s, api.Range{From: 1, To: 2}, 1)
	checkPut(t, s, points(2), 1, api.OK)
	delete(b, 1)
	b[2] = 10
	checkHas(t, s, b.all())
}

// P14.1: Free counts ticks that aren't there, each once, also those that may not be put, and more than go in.
func TestFreeKnown(t *testing.T) {
	s, b := made(t, points(0, 3, 5, maxTime))
	for _, x := range []struct {
		ticks []int64
		want  int
	}{
		{nil, 0}, {[]int64{0}, 0}, {[]int64{3}, 0}, {[]int64{maxTime}, 0}, {[]int64{0, 3, 5, maxTime}, 0}, {[]int64{5, 5, 5}, 0},
		{[]int64{1}, 1}, {[]int64{4}, 1}, {[]int64{6}, 1}, {[]int64{maxTime - 1}, 1},
		{[]int64{4, 4}, 1}, {[]int64{4, 4, 4}, 1}, {[]int64{4, 6, 4}, 2}, {[]int64{6, 4, 6, 4}, 2}, {[]int64{4, 5, 4, 5}, 1}, {[]int64{9, 8, 7, 6, 5, 4, 3}, 5},
		{[]int64{-1}, 1}, {[]int64{maxTime + 1}, 1}, {[]int64{-1, -1}, 1}, {[]int64{-1, maxTime + 1}, 2}, {[]int64{least, greatest}, 2}, {[]int64{greatest, least, greatest, least}, 2}, {[]int64{-3, -5, 3, 5}, 2},
		{[]int64{least, -1, 0, 1, maxTime, maxTime + 1, greatest}, 5}, {[]int64{greatest, 3, 4, greatest, -1, 4, 3, -1}, 3},
	} {
		checkFree(t, s, points(x.ticks...), x.want)
		checkFree(t, s, turned(points(x.ticks...)), x.want)
		checkFree(t, series.New(), points(x.ticks...), table{}.free(points(x.ticks...)))
	}
	for _, at := range outside() {
		checkFree(t, s, points(at), 1)
		checkFree(t, s, points(at, 4, at, 5), 2)
	}
	checkHas(t, s, b.all())
}

// P14.1: Free of more than go in, and on a full series.
func TestFreeMany(t *testing.T) {
	empty := series.New()
	full, b := made(t, row(most, 0, 2, 0))
	for _, n := range []int{most - 1, most, most + 1, 2 * most, 70000} {
		l := row(n, 0, 1, 5)
		checkFree(t, empty, l, n)
		checkFree(t, empty, append(turned(l), l...), n)
		checkFree(t, full, l, b.free(l))
		checkFree(t, full, row(n, -int64(n), 1, 0), n)
		checkFree(t, full, row(n, maxTime, 1, 0), n)
	}
	checkHas(t, empty, nil)
	checkHas(t, full, b.all())
}

// P14.1: with none, some and all of the points; beginning and ending at a point's tick, and one beside it.
func TestRangesKnown(t *testing.T) {
	a, b, c := api.Point{At: 10, Value: 1}, api.Point{At: 20, Value: 2}, api.Point{At: 30, Value: 3}
	for _, x := range []struct {
		from, to int64
		want     []api.Point
	}{
		{0, 40, []api.Point{a, b, c}}, {10, 31, []api.Point{a, b, c}}, {9, 32, []api.Point{a, b, c}}, {0, maxTime + 1, []api.Point{a, b, c}},
		{-1, 31, []api.Point{a, b, c}}, {least, greatest, []api.Point{a, b, c}}, {10, greatest, []api.Point{a, b, c}}, {least, 31, []api.Point{a, b, c}}, {-maxTime, 2 * maxTime, []api.Point{a, b, c}},
		{10, 30, []api.Point{a, b}}, {9, 30, []api.Point{a, b}}, {10, 29, []api.Point{a, b}}, {10, 21, []api.Point{a, b}}, {least, 30, []api.Point{a, b}}, {-5, 21, []api.Point{a, b}},
		{11, 31, []api.Point{b, c}}, {20, 31, []api.Point{b, c}}, {19, 31, []api.Point{b, c}}, {20, maxTime + 1, []api.Point{b, c}}, {11, greatest, []api.Point{b, c}}, {20, maxTime + 2, []api.Point{b, c}},
		{10, 11, []api.Point{a}}, {9, 11, []api.Point{a}}, {10, 20, []api.Point{a}}, {0, 11, []api.Point{a}}, {least, 11, []api.Point{a}}, {-1, 20, []api.Point{a}},
		{20, 21, []api.Point{b}}, {19, 21, []api.Point{b}}, {11, 30, []api.Point{b}}, {11, 21, []api.Point{b}}, {20, 30, []api.Point{b}},
		{30, 31, []api.Point{c}}, {29, 31, []api.Point{c}}, {21, 31, []api.Point{c}}, {21, greatest, []api.Point{c}}, {30, maxTime, []api.Point{c}},
		{0, 10, nil}, {0, 9, nil}, {11, 20, nil}, {11, 19, nil}, {21, 30, nil}, {31, 40, nil}, {31, maxTime + 1, nil}, {31, greatest, nil}, {-10, 0, nil}, {-10, 10, nil}, {least, 10, nil}, {least, -1, nil}, {-30, -10, nil}, {maxTime + 1, greatest, nil},
		{10, 10, nil}, {20, 20, nil}, {15, 15, nil}, {30, 30, nil}, {31, 31, nil}, {0, 0, nil}, {-1, -1, nil}, {least, least, nil}, {greatest, greatest, nil},
		{20, 10, nil}, {30, 10, nil}, {31, 10, nil}, {40, 0, nil}, {21, 20, nil}, {11, 10, nil}, {31, 30, nil}, {25, 5, nil}, {20, -1, nil}, {greatest, least, nil}, {greatest, 0, nil}, {40, least, nil}, {maxTime + 1, 0, nil}, {greatest, 10, nil}, {0, least, nil},
	} {
		s, b := made(t, []api.Point{b, c, a})
		r := api.Range{From: x.from, To: x.to}
		checkRange(t, s, r, x.want)
		checkHas(t, s, b.all())
		checkCut(t, s, r, len(x.want))
		checkRange(t, s, r, nil)
		checkHas(t, s, b.cut(r).all())
		checkCut(t, s, r, 0)
		checkHas(t, s, b.cut(r).all())
	}
}

// P14.1: points at both ends of what may be put, and numbers' ends as a range's.
func TestRangesAtEnds(t *testing.T) {
	had := points(0, 1, maxTime-1, maxTime)
	edges := []int64{least, least + 1, -maxTime, -2, -1, 0, 1, 2, 3, 1 << 20, maxTime - 2, maxTime - 1, maxTime, maxTime + 1, maxTime + 2, 2 * maxTime, greatest - 1, greatest}
	for _, from := range edges {
		for _, to := range edges {
			r := api.Range{From: from, To: to}
			s, b := made(t, had)
			checkRange(t, s, r, b.in(r))
			checkCut(t, s, r, len(b.in(r)))
			checkHas(t, s, b.cut(r).all())
			checkRange(t, series.New(), r, nil)
			checkCut(t, series.New(), r, 0)
		}
	}
}

// some is points of those of the ticks 0 to 5 whose bits a number has.
func some(set int) []api.Point {
	var l []api.Point
	for at := range int64(6) {
		if set>>at&1 == 1 {
			l = append(l, api.Point{At: at, Value: 100 + at})
		}
	}
	return l
}

// P14.1: all series of the ticks 0 to 5, and all ranges near them.
func TestRangesOfSmallSeries(t *testing.T) {
	for set := range 1 << 6 {
		for from := int64(-2); from <= 8; from++ {
			for to := int64(-2); to <= 8; to++ {
				s, b := made(t, some(set))
				r := api.Range{From: from, To: to}
				checkRange(t, s, r, b.in(r))
				checkCut(t, s, r, len(b.in(r)))
				checkHas(t, s, b.cut(r).all())
			}
		}
	}
}

// P14.1: all lists of up to four points of the ticks 0 to 5, on series of them.
func TestPutOnSmallSeries(t *testing.T) {
	var lists [][]api.Point
	for n, count := 0, 1; n <= 4; n, count = n+1, count*6 {
		for number := range count {
			var ticks []int64
			for range n {
				ticks = append(ticks, int64(number%6))
				number /= 6
			}
			lists = append(lists, points(ticks...))
		}
	}
	for set := range 1 << 6 {
		s, b := made(t, some(set))
		for _, l := range lists {
			c := s.Copy()
			next, fresh, e := b.put(l)
			checkFree(t, c, l, fresh)
			checkPut(t, c, l, fresh, e)
			checkHas(t, c, next.all())
		}
		checkHas(t, s, b.all())
	}
}

// P14.1: Cut of a full series piece by piece, from both ends and amid, and filled up again.
func TestCutAndFillUp(t *testing.T) {
	full := row(most, 0, 10, 5)
	for i := range full {
		for _, n := range []int{0, 1, 2, most / 2, most} {
			s, b := made(t, full)
			r := api.Range{From: full[i].At, To: full[i].At + int64(n)*10}
			gone := b.in(r)
			checkCut(t, s, r, len(gone))
			checkHas(t, s, b.cut(r).all())
			checkFree(t, s, full, len(gone))
			checkPut(t, s, gone, len(gone), api.OK)
			checkHas(t, s, full)
			checkPut(t, s, points(1), 0, api.ErrFull)
		}
	}
}

// P14.1: First and Last of none, one and many, behind a Cut of the first, of the last, and of all.
func TestFirstAndLast(t *testing.T) {
	a, b, c := api.Point{At: 0, Value: 0}, api.Point{At: 7, Value: -3}, api.Point{At: maxTime, Value: 9}
	s := series.New()
	checkEnd(t, "First", s.First, nil)
	checkEnd(t, "Last", s.Last, nil)
	checkPut(t, s, []api.Point{b}, 1, api.OK)
	checkEnd(t, "First", s.First, []api.Point{b})
	checkEnd(t, "Last", s.Last, []api.Point{b})
	checkPut(t, s, []api.Point{c, a}, 2, api.OK)
	checkEnd(t, "First", s.First, []api.Point{a})
	checkEnd(t, "Last", s.Last, []api.Point{c})
	checkCut(t, s, api.Range{From: 0, To: 1}, 1)
	checkEnd(t, "First", s.First, []api.Point{b})
	checkEnd(t, "Last", s.Last, []api.Point{c})
	checkCut(t, s, api.Range{From: maxTime, To: maxTime + 1}, 1)
	checkEnd(t, "First", s.First, []api.Point{b})
	checkEnd(t, "Last", s.Last, []api.Point{b})
	if s.Len() != 1 {
		t.Fatalf("Len: %d", s.Len())
	}
	checkCut(t, s, whole, 1)
	checkHas(t, s, nil)
	checkPut(t, s, []api.Point{a}, 1, api.OK)
	checkHas(t, s, []api.Point{a})
}

// P14.1: All tells the same each time, one amid the other, and as often as it is asked for.
func TestAllAgain(t *testing.T) {
	for _, had := range [][]api.Point{nil, points(4), points(9, 4, 7), row(most, 5, 3, 0)} {
		s, b := made(t, had)
		seq := s.All()
		for range 3 {
			checkList(t, "All", slices.Collect(seq), b.all())
		}
		var l []api.Point
		for p := range seq {
			l = append(l, p)
			checkList(t, "All amid All", slices.Collect(seq), b.all())
			checkList(t, "another All amid All", slices.Collect(s.All()), b.all())
		}
		checkList(t, "All, others amid it", l, b.all())
		checkHas(t, s, b.all())
	}
}

// firsts are so many as an iterator tells till it is stopped.
func firsts(t *testing.T, seq iter.Seq[api.Point], n int) []api.Point {
	t.Helper()
	var l []api.Point
	stopped := false
	seq(func(p api.Point) bool {
		if stopped {
			t.Fatalf("%v is told behind the stop", p)
		}
		l = append(l, p)
		stopped = len(l) == n
		return !stopped
	})
	return l
}

// P14.1: stopped at each point nothing more is told, and the next time it begins anew.
func TestAllStopped(t *testing.T) {
	s, b := made(t, row(20, 5, 3, 0))
	seq := s.All()
	for n := 1; n <= 20; n++ {
		checkList(t, "All, stopped", firsts(t, seq, n), b.all()[:n])
	}
	checkList(t, "All behind stops", slices.Collect(seq), b.all())
}

// P14.1, R4: two that are gone through side by side don't touch each other.
func TestAllTwo(t *testing.T) {
	s, b := made(t, points(3, 1, 2))
	other, c := made(t, points(8, 9))
	next, stop := iter.Pull(s.All())
	defer stop()
	nextToo, stopToo := iter.Pull(other.All())
	defer stopToo()
	for i := range 4 {
		p, ok := next()
		q, okToo := nextToo()
		if ok != (i < 3) || ok && p != b.all()[i] || okToo != (i < 2) || okToo && q != c.all()[i] {
			t.Fatalf("%d: %v, %v, %v, %v", i, p, ok, q, okToo)
		}
	}
}

// R1, R4: what is done to the series amid All, and ahead of going through it, doesn't change what All tells, nor All the series.
func TestAllAmidChanges(t *testing.T) {
	s, b := made(t, row(most-1, 10, 10, 0))
	seq := s.All()
	var l []api.Point
	for p := range seq {
		l = append(l, p)
		checkCut(t, s, api.Range{From: p.At, To: p.At + 1}, 1)
		checkPut(t, s, []api.Point{{At: p.At + 100000, Value: p.Value}, {At: p.At + 5, Value: 1}}, 2, api.OK)
		checkCut(t, s, api.Range{From: p.At + 5, To: p.At + 6}, 1)
	}
	checkList(t, "All amid changes", l, b.all())
	checkHas(t, s, row(most-1, 100010, 10, 0))
	checkList(t, "All behind changes", slices.Collect(seq), b.all())
}

// P14.1: a copy tells the same, and what is done to one of both isn't told by the other.
func TestCopy(t *testing.T) {
	for _, had := range [][]api.Point{nil, points(4), points(9, 4, 7), row(most-1, 5, 3, 0), row(most, 5, 3, 0)} {
		s, b := made(t, had)
		c := s.Copy()
		if c == nil || c == s {
			t.Fatal("Copy isn't one apart")
		}
		checkHas(t, c, b.all())
		changed := func(one, other *series.Series) {
			t.Helper()
			for _, p := range b.all() {
				checkPut(t, one, []api.Point{{At: p.At, Value: p.Value + 1000}}, 0, api.OK)
			}
			checkHas(t, other, b.all())
			checkCut(t, one, api.Range{From: 7, To: 8}, len(b.in(api.Range{From: 7, To: 8})))
			checkHas(t, other, b.all())
			checkCut(t, one, wide, len(b.cut(api.Range{From: 7, To: 8})))
			checkHas(t, one, nil)
			checkHas(t, other, b.all())
			checkPut(t, one, row(most, 6, 3, 0), most, api.OK)
			checkHas(t, other, b.all())
		}
		changed(c, s)
		changed(s, s.Copy())
		// A copy of a copy, each of three put into by itself.
		s, _ = made(t, points(1, 3))
		c = s.Copy()
		d := c.Copy()
		checkPut(t, s, points(2), 1, api.OK)
		checkPut(t, c, points(4), 1, api.OK)
		checkPut(t, d, points(0), 1, api.OK)
		checkHas(t, s, []api.Point{{At: 1, Value: 10}, {At: 2, Value: 10}, {At: 3, Value: 11}})
		checkHas(t, c, []api.Point{{At: 1, Value: 10}, {At: 3, Value: 11}, {At: 4, Value: 10}})
		checkHas(t, d, []api.Point{{At: 0, Value: 10}, {At: 1, Value: 10}, {At: 3, Value: 11}})
	}
}

// P14.1: every call on a nil series.
func TestNil(t *testing.T) {
	var s *series.Series
	for _, l := range [][]api.Point{nil, {}, points(5), points(5, 3, 5), points(-1), points(3, maxTime+1), row(most, 0, 1, 0), row(most+1, 0, 1, 0), row(most+1, -1, 1, 0)} {
		checkPut(t, s, l, 0, api.ErrArg)
		checkFree(t, s, l, 0)
	}
	for _, r := range []api.Range{{}, whole, wide, {From: 3, To: 5}, {From: 5, To: 3}, {From: -9, To: -3}, {From: greatest, To: least}} {
		checkRange(t, s, r, nil)
		checkCut(t, s, r, 0)
	}
	if s.Len() != 0 {
		t.Fatalf("Len: %d", s.Len())
	}
	checkEnd(t, "First", s.First, nil)
	checkEnd(t, "Last", s.Last, nil)
	seq := s.All()
	if seq == nil {
		t.Fatal("All can't be gone through")
	}
	for range 2 {
		checkList(t, "All", slices.Collect(seq), nil)
	}
	if s.Copy() != nil {
		t.Fatal("Copy of nil")
	}
}

// spare is a list with room behind it, in which marks stand, and the whole of it.
func spare(l []api.Point) (list, room []api.Point) {
	room = append(slices.Clone(l), row(9, 7000000, 1, -77)...)
	return room[:len(l)], room
}

// P14.2, R4: what is handed in isn't changed, its spare room neither, nor its order.
func TestHandedInStays(t *testing.T) {
	for _, l := range [][]api.Point{nil, points(5, 3, 5), points(9, 1, 8, 2, 7, 3, 1), turned(row(most, 0, 2, 0)), turned(row(most+1, 1, 2, 0)), points(5, -1, 3), points(greatest, least, 0, greatest)} {
		list, room := spare(l)
		was := slices.Clone(room)
		for _, had := range [][]api.Point{nil, points(2, 4, 6), row(most, 0, 2, 5)} {
			s, _ := made(t, had)
			s.Free(list)
			checkList(t, "handed in to Free", room, was)
			s.Put(list)
			checkList(t, "handed in to Put", room, was)
			s.Cut(api.Range{From: 2, To: 5})
			s.Put(list)
			s.Cut(wide)
			s.Put(points(3, 1))
			checkList(t, "handed in, and the series changed", room, was)
		}
	}
}

// P14.2, R4: what was handed in may be changed, and nothing is told otherwise behind it.
func TestHandedInIsNotKept(t *testing.T) {
	for _, l := range [][]api.Point{points(5), points(1, 2, 3), points(5, 3, 5), row(most, 0, 2, 0), turned(row(most, 0, 2, 0))} {
		for _, had := range [][]api.Point{nil, points(4), points(2, 4)} {
			s, b := made(t, had)
			next, fresh, e := b.put(l)
			list, room := spare(l)
			checkPut(t, s, list, fresh, e)
			seq := s.All()
			for i := range room {
				room[i] = api.Point{At: int64(i) * 11, Value: -5}
			}
			checkHas(t, s, next.all())
			checkList(t, "All behind a change of what was handed in", slices.Collect(seq), next.all())
		}
	}
}

// P14.2, R4: what was told may be changed, and added to, and nothing is told otherwise behind it.
func TestToldIsNewMemory(t *testing.T) {
	for _, had := range [][]api.Point{points(5), points(9, 1, 5), row(most-1, 0, 2, 0), row(most, 0, 2, 0)} {
		s, b := made(t, had)
		// Room behind the points, where such may be.
		checkPut(t, s, had, 0, api.OK)
		for _, r := range []api.Range{whole, wide, {From: 0, To: 5}, {From: 5, To: 9}, {From: 5, To: 6}, {From: 9, To: 3}, {From: 1, To: maxTime}} {
			first, second := s.Get(r), s.Get(r)
			seq := s.All()
			for i := range first {
				first[i] = api.Point{At: -5, Value: -6}
			}
			for room := first[:cap(first)]; len(room) > 0; room = room[1:] {
				room[0] = api.Point{At: -7, Value: -8}
			}
			_ = append(first, points(-1, -2, -3)...)
			checkList(t, "the other answer", second, b.in(r))
			checkRange(t, s, r, b.in(r))
			checkHas(t, s, b.all())
			checkList(t, "All behind a change of what was told", slices.Collect(seq), b.all())
			// An answer of its own may be handed in.
			checkPut(t, s, second, 0, api.OK)
			checkHas(t, s, b.all())
		}
	}
}

// P14.2, R4: what was told stays, whatever is done to the series.
func TestToldStays(t *testing.T) {
	s, b := made(t, row(20, 0, 10, 0))
	was := s.Get(wide)
	some := s.Get(api.Range{From: 50, To: 100})
	checkPut(t, s, row(20, 0, 10, 500), 0, api.OK)
	checkPut(t, s, row(20, 5, 10, 500), 20, api.OK)
	checkCut(t, s, api.Range{From: 0, To: 60}, 12)
	checkCut(t, s, wide, 28)
	checkPut(t, s, row(most, 1, 1, 0), most, api.OK)
	checkList(t, "what was told", was, b.all())
	checkList(t, "what was told", some, b.in(api.Range{From: 50, To: 100}))
}

// R5: what is told hangs on what is there, not on the calls by which it came there.
func TestOtherWays(t *testing.T) {
	want := row(100, 0, 10, 0)
	a, _ := made(t, want)
	b, _ := made(t, row(most, 1, 1, 7))
	checkCut(t, b, wide, most)
	for _, p := range turned(want) {
		checkPut(t, b, []api.Point{p}, 1, api.OK)
	}
	checkPut(t, b, row(200, 0, 10, 0), 100, api.OK)
	checkCut(t, b, api.Range{From: 1000, To: greatest}, 100)
	c := b.Copy()
	for _, s := range []*series.Series{a, b, c} {
		checkHas(t, s, want)
		checkPut(t, s, row(most-99, 100000, 1, 0), 0, api.ErrFull)
		checkPut(t, s, row(most-100, 100000, 1, 0), most-100, api.OK)
	}
}

// chance is a tick near the ones that are there, or at an end.
func chance(r *rand.Rand, spread int64) int64 {
	switch r.Intn(20) {
	case 0:
		return r.Int63n(3)
	case 1:
		return maxTime - r.Int63n(3)
	}
	return r.Int63n(spread)
}

// list is points by chance, seldom with a tick outside.
func list(r *rand.Rand, n int, spread int64) []api.Point {
	var l []api.Point
	for range n {
		l = append(l, api.Point{At: chance(r, spread), Value: int64(r.Uint64()) >> r.Intn(64)})
	}
	if n > 0 && r.Intn(12) == 0 {
		l[r.Intn(n)].At = outside()[r.Intn(len(outside()))]
	}
	return l
}

// ranged is a range by chance, also one that is turned round, or that goes beyond what may be put.
func ranged(r *rand.Rand, spread int64) api.Range {
	end := func() int64 {
		if r.Intn(10) == 0 {
			return outside()[r.Intn(len(outside()))]
		}
		return chance(r, spread)
	}
	from := end()
	if r.Intn(2) == 0 {
		return api.Range{From: from, To: end()}
	}
	// Short ones, too, that leave most points where they are.
	return api.Range{From: from, To: from + r.Int63n(1+spread/16)}
}

// P14.1, P14.2: over many calls by chance each answer is what a plain table tells.
func TestByChance(t *testing.T) {
	came := map[api.Errno]int{}
	for seed := range int64(60) {
		r := rand.New(rand.NewSource(seed))
		spread := []int64{20, 300, 5000, maxTime}[seed%4]
		s, b := series.New(), table{}
		for range 500 {
			switch n := r.Intn(30); {
			case n < 15:
				l := list(r, r.Intn(1<<r.Intn(9)), spread)
				next, fresh, e := b.put(l)
				checkFree(t, s, l, b.free(l))
				checkPut(t, s, l, fresh, e)
				b = next
				came[e]++
			case n < 20:
				cut := ranged(r, spread)
				checkCut(t, s, cut, len(b.in(cut)))
				b = b.cut(cut)
			case n < 21:
				l := s.Get(wide)
				c := s.Copy()
				s.Cut(wide)
				s = c
				checkList(t, "Get ahead of a Cut", l, b.all())
			default:
				is := ranged(r, spread)
				checkRange(t, s, is, b.in(is))
				l := list(r, r.Intn(400), spread)
				checkFree(t, s, l, b.free(l))
			}
			checkHas(t, s, b.all())
		}
	}
	if came[api.OK] < 1000 || came[api.ErrRange] < 100 || came[api.ErrFull] < 100 {
		t.Fatalf("too few of one kind: %v", came)
	}
}
