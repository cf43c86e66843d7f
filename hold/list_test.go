package hold_test

import (
	"bytes"
	"math"
	"regexp"
	"slices"
	"testing"

	"catacomb/api"
	"catacomb/hold"
)

const (
	maxTime  = 1099511627776 // 2 to the power of 40
	most     = 16            // holds of a table
	greatest = math.MaxInt64
	least    = math.MinInt64
)

// ofName is what a name is, by chapter 12's words.
var ofName = regexp.MustCompile(`\A[a-z][a-z0-9-]{0,15}\z`)

// list is a plain list of holds, in the order they were added in.
type list []api.Hold

// place is where the hold of a name stands, or -1.
func (l list) place(name string) int {
	return slices.IndexFunc(l, func(h api.Hold) bool { return h.Name == name })
}

// add is the list with one more, or as it was.
func (l list) add(h api.Hold) (list, api.Errno) {
	if !ofName.MatchString(h.Name) {
		return l, api.ErrName
	}
	if h.Series != "" && !ofName.MatchString(h.Series) {
		return l, api.ErrName
	}
	if h.Range.From < 0 || h.Range.From >= h.Range.To || h.Range.To > maxTime+1 {
		return l, api.ErrRange
	}
	if l.place(h.Name) >= 0 {
		return l, api.ErrSame
	}
	if len(l) == most {
		return l, api.ErrFull
	}
	return append(slices.Clone(l), h), api.OK
}

// release is the list without the hold of a name, or as it was.
func (l list) release(name string) (list, api.Errno) {
	i := l.place(name)
	if i < 0 {
		return l, api.ErrNone
	}
	return slices.Delete(slices.Clone(l), i, i+1), api.OK
}

// of is the ranges of the holds of a series, and of all.
func (l list) of(series string) []api.Range {
	var ranges []api.Range
	for _, h := range l {
		if h.Series == "" || h.Series == series {
			ranges = append(ranges, h.Range)
		}
	}
	return ranges
}

// covered tells whether a tick is in one of some ranges.
func covered(ranges []api.Range, at int64) bool {
	for _, r := range ranges {
		if r.From <= at && at < r.To {
			return true
		}
	}
	return false
}

// met tells whether one of some ranges, each of which has ticks, has one of another range's.
func met(ranges []api.Range, r api.Range) bool {
	for _, of := range ranges {
		// The first tick of both is at the later one of their beginnings, if there is one.
		first := max(of.From, r.From)
		if first < of.To && first < r.To {
			return true
		}
	}
	return false
}

// rising is the list in the order of names.
func (l list) rising() []api.Hold {
	return slices.SortedFunc(slices.Values(l), func(a, b api.Hold) int { return bytes.Compare([]byte(a.Name), []byte(b.Name)) })
}

// asked are texts that a table is asked of: series' names, and others.
func asked() []string {
	return []string{"cpu", "mem", "cp", "cpu0", "disk-1", "", "CPU", " cpu", "cpu ", "case-1", "all", "*", "\x00"}
}

// edges are the ticks at and beside the ends of the list's ranges, and at the ends of what may be.
func (l list) edges() []int64 {
	ticks := []int64{least, least + 1, -1, 0, 1, maxTime - 1, maxTime, maxTime + 1, maxTime + 2, greatest - 1, greatest}
	for _, h := range l {
		ticks = append(ticks, h.Range.From-1, h.Range.From, h.Range.From+1, h.Range.To-1, h.Range.To, h.Range.To+1)
	}
	slices.Sort(ticks)
	return slices.Compact(ticks)
}

// checkHeld holds what a table has against the list.
func checkHeld(t *testing.T, h *hold.Table, l list) {
	t.Helper()
	if h.Len() != len(l) {
		t.Fatalf("Len: %d, want %d", h.Len(), len(l))
	}
	want := l.rising()
	seq := h.All()
	for range 2 {
		if got := slices.Collect(seq); !slices.Equal(got, want) {
			t.Fatalf("All: %v, want %v", got, want)
		}
	}
	for _, series := range asked() {
		if got := h.Any(series); got != (len(l.of(series)) > 0) {
			t.Fatalf("Any(%q): %v with %v", series, got, want)
		}
	}
}

// checkTicks holds what a table tells of some ticks, and of all ranges from one to another one of them, against the list.
func checkTicks(t *testing.T, h *hold.Table, l list, ticks []int64) {
	t.Helper()
	for _, series := range asked() {
		ranges := l.of(series)
		for _, at := range ticks {
			if got := h.Covers(series, at); got != covered(ranges, at) {
				t.Fatalf("Covers(%q, %d): %v with %v", series, at, got, l)
			}
			for _, to := range ticks {
				r := api.Range{From: at, To: to}
				if got := h.Meets(series, r); got != met(ranges, r) {
					t.Fatalf("Meets(%q, %v): %v with %v", series, r, got, l)
				}
			}
		}
	}
}

// both is a table, and a plain list that is told the same.
type both struct {
	t *testing.T
	h *hold.Table
	l list
}

func fresh(t *testing.T) *both { return &both{t: t, h: hold.New()} }

// with is a table of some holds.
func with(t *testing.T, holds ...api.Hold) *both {
	t.Helper()
	x := fresh(t)
	for _, h := range holds {
		x.add(h, api.OK)
	}
	return x
}

// check holds all that a table tells against the list.
func (x *both) check() {
	x.t.Helper()
	checkHeld(x.t, x.h, x.l)
	checkTicks(x.t, x.h, x.l, x.l.edges())
}

// add adds one more, by the list's answer, which has to be the one that is wanted.
func (x *both) add(h api.Hold, want api.Errno) {
	x.t.Helper()
	next, e := x.l.add(h)
	if got := x.h.Add(h); got != want || e != want {
		x.t.Fatalf("Add(%v): %d, by a list %d, want %d", h, int(got), int(e), int(want))
	}
	x.l = next
	checkHeld(x.t, x.h, x.l)
}

// release releases one, by the list's answer, which has to be the one that is wanted.
func (x *both) release(name string, want api.Errno) {
	x.t.Helper()
	next, e := x.l.release(name)
	if got := x.h.Release(name); got != want || e != want {
		x.t.Fatalf("Release(%q): %d, by a list %d, want %d", name, int(got), int(e), int(want))
	}
	x.l = next
	checkHeld(x.t, x.h, x.l)
}

// one is a hold.
func one(name, series string, from, to int64) api.Hold {
	return api.Hold{Name: name, Series: series, Range: api.Range{From: from, To: to}}
}

// names are as many as a table has room for, rising byte by byte, some of them the beginnings of others.
func names() []string {
	return []string{"a", "a-", "a--", "a-0", "a0", "a00", "a1", "a10", "a9", "aa", "aaaaaaaaaaaaaaaa", "ab", "b", "b-1", "z", "z999999999999999"}
}

// full is as many holds as a table has room for, their names falling, of all kinds of series.
func full() []api.Hold {
	var l []api.Hold
	for i, name := range names() {
		from := int64(i) * 20
		l = append(l, one(name, []string{"cpu", "mem", "disk-1", "cpu0"}[i%4], from, from+1+int64(i)))
	}
	slices.Reverse(l)
	return l
}
