package expire_test

import (
	"slices"
	"testing"
	"unsafe"

	"catacomb/api"
	"catacomb/expire"
	"catacomb/tier"
)

// own is a text in memory of the test's own, and that memory.
func own(s string) (string, []byte) {
	b := []byte(s)
	return unsafe.String(&b[0], len(b)), b
}

// P19.2: the series' name isn't changed, nor kept.
func TestNameMemory(t *testing.T) {
	holds := []api.Hold{held("cpu", 0, 10), {Name: "b", Series: "xxx", Range: api.Range{From: 3600, To: 7200}}}
	s, h := usual().stock(t), table(t, holds)
	text, room := own("cpu")
	due := expire.Due(s, text, h, of(1, 1, 1), 9000)
	went, _ := expire.Series(s, text, h, of(1, 1, 1), 9000)
	if string(room) != "cpu" {
		t.Fatalf("the name became %q", room)
	}
	was := told(t, s)
	copy(room, "xxx")
	checkTold(t, "behind a change of the name", s, was)
	checkHolds(t, "behind a change of the name", h, holds)
	checkCount(t, "Due", due, expire.Count{5, 4, 1})
	checkCount(t, "Series", went, expire.Count{5, 4, 1})
	checkCount(t, "Due of cpu", expire.Due(s, "cpu", h, of(1, 1, 1), 9000), expire.Count{})
	checkCount(t, "Due of another one", expire.Due(s, text, h, of(1, 1, 1), 9000), expire.Count{1, 1, 1})
}

// P19.2: counts that were told may be changed; they are one's own.
func TestCountMemory(t *testing.T) {
	s := usual().stock(t)
	p := of(1, 1, 1)
	due := expire.Due(s, "cpu", nil, p, 9000)
	due[0], due[1], due[2] = 70, 80, 90
	checkCount(t, "Due", expire.Due(s, "cpu", nil, p, 9000), expire.Count{6, 5, 2})
	went, _ := expire.Series(s, "cpu", nil, p, 9000)
	keep := went
	went[0] = -1
	if again, _ := expire.Series(s, "cpu", nil, p, 9000); again != (expire.Count{}) {
		t.Fatalf("Series once more: %v", again)
	}
	checkCount(t, "Series", keep, expire.Count{6, 5, 2})
}

// R4: what was told of a stock ahead, and a copy of it, stay as they were, and the other way round.
func TestCopies(t *testing.T) {
	for _, holds := range [][]api.Hold{nil, {held("cpu", 0, 1)}, {held("", 3599, 3601)}, {held("mem", 0, 9000)}} {
		s, h := usual().stock(t), table(t, holds)
		ahead, was := told(t, s), told(t, s)
		c := s.Copy()
		expire.Due(s, "cpu", h, of(1, 1, 1), 9000)
		expire.Series(s, "cpu", h, of(1, 1, 1), 9000)
		if !ahead.same(was) {
			t.Fatalf("what was told ahead became %v", ahead)
		}
		checkTold(t, "a copy made ahead", c, usual())
		behind := told(t, s)
		expire.Series(c, "mem", nil, of(1, 1, 1), 9000)
		checkTold(t, "behind Series of the copy", s, behind)
	}
}

// R4: a copy that Due may make shares nothing with the stock: both are gone on with as if it wasn't asked.
func TestDueThenOn(t *testing.T) {
	for _, act := range []func(s *tier.Stock){
		func(s *tier.Stock) { s.Put(points(7202, 7300, 20_000)) },
		func(s *tier.Stock) { s.Put(points(7300)); s.Roll(14_400) },
		func(s *tier.Stock) { s.Purge(api.Range{From: 250, To: 3700}) },
		func(s *tier.Stock) { s.Drop(api.Mid, func(r api.Range) bool { return r.From == 300 }) },
		func(s *tier.Stock) { expire.Series(s, "cpu", nil, of(1, 1, 1), 5000) },
		func(s *tier.Stock) { expire.Next(s, of(1, 1, 1)) },
	} {
		asked, other := usual().stock(t), usual().stock(t)
		for range 3 {
			expire.Due(asked, "cpu", nil, of(1, 1, 1), 9000)
			expire.Next(asked, of(1, 1, 1))
			act(asked)
			act(other)
			checkTold(t, "with Due", asked, told(t, other))
		}
	}
}

// P19.1, P19.2: all ticks, numbers and holds near a point at each of some marks.
func TestAllNearPoints(t *testing.T) {
	for _, mark := range []int64{0, 300, 600} {
		for n := int64(0); n <= 3; n++ {
			for now := int64(297); now <= 306; now++ {
				x := scene{l: lists{points: points(298, 299, 300, 301), marks: [3]int64{0, mark, 0}}, series: "cpu", p: of(n, 0, 0), now: now}
				x.run(t)
				for from := int64(297); from <= 302; from++ {
					for to := from + 1; to <= 303; to++ {
						x.holds = []api.Hold{held("cpu", from, to)}
						x.run(t)
					}
				}
			}
		}
	}
}

// P19.1, P19.2: all ticks, numbers and holds near the edges of wide windows at each of some marks.
func TestAllNearWindows(t *testing.T) {
	edges := []int64{3299, 3300, 3301, 3599, 3600, 3601, 3899, 3900, 3901}
	for _, mark := range []int64{3600, 7200} {
		for n := int64(1); n <= 2; n++ {
			for _, end := range []int64{3600, 3900, 7200} {
				for now := end - 1; now <= end+4; now++ {
					x := scene{l: lists{marks: [3]int64{0, 7200, mark}}, series: "cpu", p: of(n, n, n), now: now}
					x.l.aggs[1] = aggs(3000, 3300, 3600)
					x.l.aggs[2] = aggs([]int64{0, 3600}[:mark/3600]...)
					x.run(t)
					for i, from := range edges {
						for _, to := range edges[i+1:] {
							x.holds = []api.Hold{held("", from, to)}
							x.run(t)
						}
					}
				}
			}
		}
	}
}

// R5: what is told hangs on what is handed in alone, not on what was asked before, nor on the order of holds.
func TestOrder(t *testing.T) {
	holds := []api.Hold{{Name: "a", Series: "cpu", Range: api.Range{From: 0, To: 1}}, {Name: "b", Range: api.Range{From: 3599, To: 3600}}, {Name: "c", Series: "mem", Range: api.Range{From: 0, To: 9000}}}
	for range 20 {
		slices.Reverse(holds)
		x := scene{l: usual(), series: "cpu", holds: holds, p: of(1, 1, 1), now: 9000}
		x.goes(t, expire.Count{4, 3, 1})
		holds[0], holds[1] = holds[1], holds[0]
	}
}
