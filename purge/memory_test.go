package purge_test

import (
	"slices"
	"testing"
	"unsafe"

	"catacomb/api"
	"catacomb/purge"
	"catacomb/tier"
)

// own is a text in memory of the test's own, and that memory.
func own(s string) (string, []byte) {
	b := []byte(s)
	return unsafe.String(&b[0], len(b)), b
}

// P20.2: the series' name isn't changed, nor kept.
func TestNameMemory(t *testing.T) {
	holds := []api.Hold{held("xxx", 0, 1)}
	s, h := usual(t).stock(t), table(t, holds)
	text, room := own("cpu")
	x := scene{l: usual(t), series: text, holds: holds, r: to(0, 300)}
	if e := purge.Check(h, text, x.r); e != api.OK {
		t.Fatalf("Check: %d", int(e))
	}
	checkDo(t, x, s, h, purge.Report{Points: 2, Windows: 2}, api.OK)
	if string(room) != "cpu" {
		t.Fatalf("the name became %q", room)
	}
	was := told(t, s)
	copy(room, "xxx")
	checkTold(t, "behind a change of the name", s, was)
	checkHolds(t, "behind a change of the name", h, holds)
	checkDo(t, x, s, h, purge.Report{}, api.ErrHeld)
	checkTold(t, "behind a change of the name", s, was)
}

// P20.2: the table is as it was, and may be changed further; the stock tells nothing otherwise by it.
func TestTable(t *testing.T) {
	holds := []api.Hold{{Name: "a", Series: "mem", Range: to(0, 10)}, {Name: "b", Series: "cpu", Range: to(7200, 7201)}, {Name: "case-1", Range: to(10_800, 10_801)}}
	s, h := usual(t).stock(t), table(t, holds)
	for _, r := range []api.Range{to(0, 300), to(3599, 3601), to(7200, 7201), to(20, 10), whole} {
		for range 2 {
			purge.Check(h, "cpu", r)
			purge.Do(s, "cpu", h, r)
			checkHolds(t, "behind Do", h, holds)
		}
	}
	was := told(t, s)
	for _, change := range []func(){
		func() { h.Release("b") },
		func() { h.Add(held("cpu", 0, 1)) },
		func() { h.Add(api.Hold{Name: "d", Series: "cpu", Range: to(0, 7200)}) },
		func() { h.Release("a"); h.Release("case-1"); h.Release("d") },
		func() { h = nil },
	} {
		change()
		checkTold(t, "behind a change of the table", s, was)
	}
	checkDo(t, scene{series: "cpu", r: to(7200, 7202)}, s, h, purge.Report{Points: 2}, api.OK)
}

// P20.1: each change of the table is heeded, as it is at that call.
func TestTableHeeded(t *testing.T) {
	s, h := usual(t).stock(t), table(t, nil)
	x := scene{l: usual(t), series: "cpu", r: to(0, 1)}
	for _, row := range []struct {
		change func() api.Errno
		want   api.Errno
	}{
		{func() api.Errno { return h.Add(held("cpu", 3599, 3600)) }, api.ErrHeld},
		{func() api.Errno { return h.Release("case-1") }, api.OK},
		{func() api.Errno { return h.Add(held("mem", 3599, 3600)) }, api.OK},
		{func() api.Errno { return h.Add(api.Hold{Name: "b", Range: to(3599, 3600)}) }, api.ErrHeld},
		{func() api.Errno { return h.Release("case-1") }, api.ErrHeld},
		{func() api.Errno { return h.Release("b") }, api.OK},
	} {
		if e := row.change(); e != api.OK {
			t.Fatalf("the change: %d", int(e))
		}
		if e := purge.Check(h, "cpu", x.r); e != row.want {
			t.Fatalf("Check: %d, want %d", int(e), int(row.want))
		}
		did := purge.Report{Points: 1, Windows: 2}
		if row.want != api.OK {
			did = purge.Report{}
		}
		checkDo(t, x, s.Copy(), h, did, row.want)
	}
	checkTold(t, "whose copies were purged", s, x.l)
}

// R4: what was told of a stock ahead, and a copy of it, stay as they were, and the other way round.
func TestCopies(t *testing.T) {
	for _, r := range []api.Range{to(0, 1), to(299, 301), to(3599, 3601), to(0, 7200), whole, to(301, 3599)} {
		s := usual(t).stock(t)
		ahead, c := told(t, s), s.Copy()
		purge.Plan(s, r)
		left, did := ahead.purged(r)
		checkDo(t, scene{r: r}, s, nil, did, api.OK)
		if !ahead.same(usual(t)) {
			t.Fatalf("what was told ahead became %v", ahead)
		}
		checkTold(t, "a copy made ahead", c, usual(t))
		behind := s.Copy()
		checkDo(t, scene{r: whole}, c, nil, purge.Report{Points: 8, Windows: 7}, api.OK)
		checkTold(t, "whose copy was purged", s, left)
		s.Put(points(9000, 9001))
		s.Roll(10_800)
		checkTold(t, "a copy made behind", behind, left)
	}
}

// R4: a stock that was planned for is gone on with as if it wasn't asked.
func TestPlanThenOn(t *testing.T) {
	for _, act := range []func(s *tier.Stock){
		func(s *tier.Stock) { s.Put(points(7202, 7300, 20_000)) },
		func(s *tier.Stock) { s.Put(points(7300)); s.Roll(14_400) },
		func(s *tier.Stock) { s.Purge(to(250, 3700)) },
		func(s *tier.Stock) { s.Drop(api.Mid, func(r api.Range) bool { return r.From == 300 }) },
		func(s *tier.Stock) { purge.Do(s, "cpu", nil, to(299, 301)) },
	} {
		asked, other := usual(t).stock(t), usual(t).stock(t)
		for range 3 {
			for _, r := range []api.Range{to(0, 1), to(299, 301), to(3599, 7201), whole, to(5, 5)} {
				purge.Plan(asked, r)
				purge.Clean(asked, r)
			}
			act(asked)
			act(other)
			checkTold(t, "with Plan", asked, told(t, other))
		}
	}
}

// R5: what is told hangs on what is handed in alone, not on what was asked before, nor on the order of holds.
func TestOrder(t *testing.T) {
	holds := []api.Hold{{Name: "a", Series: "mem", Range: to(0, 1)}, {Name: "b", Range: to(7200, 7201)}, {Name: "c", Series: "cpu", Range: to(3600, 3601)}}
	for range 20 {
		slices.Reverse(holds)
		x := scene{l: usual(t), series: "cpu", r: to(0, 3600)}
		h := table(t, holds)
		checkDo(t, x, x.l.stock(t), h, purge.Report{Points: 4, Windows: 4}, api.OK)
		x.r = to(0, 3601)
		checkDo(t, x, x.l.stock(t), h, purge.Report{}, api.ErrHeld)
		x.series = "mem"
		checkDo(t, x, x.l.stock(t), h, purge.Report{}, api.ErrHeld)
		x.r = to(7000, 7001)
		checkDo(t, x, x.l.stock(t), h, purge.Report{}, api.OK)
		x.r = to(7199, 7201)
		checkDo(t, x, x.l.stock(t), h, purge.Report{}, api.ErrHeld)
		holds[0], holds[1] = holds[1], holds[0]
	}
}
