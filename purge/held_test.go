package purge_test

import (
	"testing"

	"catacomb/api"
	"catacomb/hold"
	"catacomb/purge"
)

// held is a hold of a range.
func held(series string, from, end int64) api.Hold {
	return api.Hold{Name: "case-1", Series: series, Range: to(from, end)}
}

// P20.1: a hold that meets the reach forbids it, on either side of the range; one that ends where the reach begins, or begins where it ends, doesn't.
func TestHoldBesideReach(t *testing.T) {
	for _, row := range []struct {
		r, reach api.Range
	}{
		{to(4000, 4010), to(3600, 7200)}, {to(3600, 3601), to(3600, 7200)}, {to(7199, 7200), to(3600, 7200)}, {to(3600, 7200), to(3600, 7200)}, {to(3601, 7199), to(3600, 7200)},
		{to(7000, 7201), to(3600, 10_800)}, {to(7199, 7201), to(3600, 10_800)}, {to(3600, 10_800), to(3600, 10_800)}, {to(3700, 14_000), to(3600, 14_400)}, {to(7200, 7300), to(7200, 10_800)},
	} {
		x := scene{l: usual(t), series: "cpu", r: row.r}
		from, end := row.reach.From, row.reach.To
		for _, h := range []api.Range{
			to(from-1, from), to(from-2, from-1), to(0, from), to(0, from-1), to(from-300, from), to(from-3600, from),
			to(end, end+1), to(end+1, end+2), to(end, maxTime+1), to(end+1, maxTime+1), to(end, end+300), to(maxTime, maxTime+1),
		} {
			x.holds = []api.Hold{held("cpu", h.From, h.To)}
			_, did := x.l.purged(row.r)
			x.does(t, did.Points, did.Windows)
		}
		for _, h := range []api.Range{
			to(from, from+1), to(from-1, from+1), to(0, from+1), to(from+1, from+2), to(from+299, from+300), to(from, end), to(from+1, end-1), to(0, end), to(0, end+1), whole,
			to(end-1, end), to(end-1, end+1), to(end-2, end-1), to(end-1, maxTime+1), to(from, maxTime+1), to(from+1, maxTime+1), to(from-1, end+1), to(0, maxTime),
			to(row.r.From, row.r.To), to(row.r.From, row.r.From+1), to(row.r.To-1, row.r.To),
		} {
			x.holds = []api.Hold{held("cpu", h.From, h.To)}
			x.fails(t, api.ErrHeld)
			x.l = lists{}
			x.fails(t, api.ErrHeld)
			x.l = usual(t)
		}
	}
}

// P20.1: reaches at the first tick of all, and at the last one.
func TestHoldEnds(t *testing.T) {
	for _, row := range []struct {
		r, h api.Range
		want api.Errno
	}{
		{to(0, 5), to(10, 20), api.ErrHeld}, {to(0, 5), to(3599, 3600), api.ErrHeld}, {to(0, 5), to(3600, 3601), api.OK}, {to(3599, 3600), to(0, 1), api.ErrHeld},
		{to(0, 3600), to(3600, 3601), api.OK}, {to(0, 3601), to(7199, 7200), api.ErrHeld}, {to(0, 3601), to(7200, 7201), api.OK},
		{to(maxTime, maxTime+1), to(maxTime, maxTime+1), api.ErrHeld}, {to(maxTime, maxTime+1), to(lastLong, lastLong+1), api.ErrHeld}, {to(maxTime, maxTime+1), to(lastLong-1, lastLong), api.OK}, {to(maxTime, maxTime+1), to(0, lastLong), api.OK},
		{to(lastLong, lastLong+1), to(maxTime, maxTime+1), api.ErrHeld}, {to(lastLong-1, lastLong), to(lastLong, maxTime+1), api.OK}, {to(lastLong-1, lastLong+1), to(maxTime, maxTime+1), api.ErrHeld}, {to(lastLong-1, lastLong+1), to(lastLong-long, lastLong-long+1), api.ErrHeld},
		{to(lastLong-1, lastLong+1), to(lastLong-long-1, lastLong-long), api.OK}, {whole, to(0, 1), api.ErrHeld}, {whole, to(maxTime, maxTime+1), api.ErrHeld}, {whole, whole, api.ErrHeld}, {to(0, 1), whole, api.ErrHeld}, {to(0, maxTime), to(maxTime, maxTime+1), api.ErrHeld},
	} {
		x := scene{l: lists{points: points(0, 3599, 3600, lastLong-1, lastLong, maxTime)}, series: "cpu", holds: []api.Hold{held("", row.h.From, row.h.To)}, r: row.r}
		if row.want != api.OK {
			x.fails(t, row.want)
		} else if _, _, e := x.run(t); e != api.OK {
			t.Fatalf("%v with a hold of %v: %d", row.r, row.h, int(e))
		}
	}
}

// P20.1: holds of the series, of another one, of all; of a series whose name is none those of all count.
func TestHoldSeries(t *testing.T) {
	for _, row := range []struct {
		of, series string
		want       api.Errno
	}{
		{"cpu", "cpu", api.ErrHeld}, {"", "cpu", api.ErrHeld}, {"mem", "cpu", api.OK}, {"cp", "cpu", api.OK}, {"cpu0", "cpu", api.OK}, {"c", "cpu", api.OK},
		{"cpu", "", api.OK}, {"", "", api.ErrHeld},
		{"cpu", "CPU", api.OK}, {"", "CPU", api.ErrHeld}, {"cpu", "cpu ", api.OK}, {"", "cpu ", api.ErrHeld}, {"cpu", "cpu\x00", api.OK}, {"", "\xff\xfe", api.ErrHeld},
		{"a-name-of-sixtee", "a-name-of-sixteen-signs", api.OK}, {"", "a-name-of-sixteen-signs", api.ErrHeld}, {"", "-", api.ErrHeld}, {"", "a/b", api.ErrHeld}, {"", "*", api.ErrHeld}, {"cpu", "*", api.OK},
	} {
		x := scene{l: usual(t), series: row.series, holds: []api.Hold{held(row.of, 0, 1)}, r: to(3599, 3600)}
		if row.want == api.OK {
			x.does(t, 1, 2)
		} else {
			x.fails(t, row.want)
		}
		// Without holds, and beside the reach, the name is nothing to it.
		x.holds[0].Range = to(3600, 7200)
		x.does(t, 1, 2)
		x.holds = nil
		x.does(t, 1, 2)
	}
}

// P20.1: of several holds each one counts, at each place of a full table.
func TestFullTable(t *testing.T) {
	x := scene{l: usual(t), series: "cpu", r: to(3599, 3600)}
	for i, c := range "abcdefghijklmnop" {
		x.holds = append(x.holds, api.Hold{Name: string(c), Series: "mem", Range: to(int64(i), int64(i)+1)})
	}
	x.does(t, 1, 2)
	for i := range x.holds {
		was := x.holds[i]
		x.holds[i].Series = "cpu"
		x.fails(t, api.ErrHeld)
		x.holds[i].Series = ""
		x.fails(t, api.ErrHeld)
		x.holds[i].Range = to(3600, 3601)
		x.does(t, 1, 2)
		x.holds[i] = was
	}
	for i := range x.holds {
		x.holds[i].Series = "cpu"
		x.holds[i].Range = to(3600+int64(i), maxTime+1)
	}
	x.does(t, 1, 2)
	x.r = to(3599, 3601)
	x.fails(t, api.ErrHeld)
	x.series = "mem"
	x.does(t, 2, 4)
}

// P20.1: a table that is nil, or empty, forbids nothing.
func TestNoHolds(t *testing.T) {
	for _, h := range []*hold.Table{nil, hold.New()} {
		for _, series := range []string{"cpu", "", "No name"} {
			for _, r := range []api.Range{to(0, 1), to(3599, 3601), whole} {
				if e := purge.Check(h, series, r); e != api.OK {
					t.Fatalf("Check of %v: %d", r, int(e))
				}
				x := scene{l: usual(t), series: series, r: r}
				left, did := x.l.purged(r)
				s := x.l.stock(t)
				checkDo(t, x, s, h, did, api.OK)
				checkTold(t, "without holds", s, left)
			}
			for _, r := range wrong() {
				if e := purge.Check(h, series, r); e != api.ErrRange {
					t.Fatalf("Check of %v: %d", r, int(e))
				}
			}
		}
	}
}

// P20.2: what is held stays till a release, and is purged then.
func TestRelease(t *testing.T) {
	l := usual(t)
	s, h := l.stock(t), table(t, []api.Hold{held("cpu", 3000, 3001)})
	x := scene{l: l, series: "cpu", r: to(0, 300)}
	for range 3 {
		checkDo(t, x, s, h, purge.Report{}, api.ErrHeld)
		checkTold(t, "held", s, l)
	}
	// Of another series nothing is held, nor behind the reach.
	other := x
	other.series = "mem"
	c := s.Copy()
	checkDo(t, other, c, h, purge.Report{Points: 2, Windows: 2}, api.OK)
	checkTold(t, "held, though its copy wasn't", s, l)
	beside := x
	beside.r = to(3600, 7201)
	left, _ := l.purged(beside.r)
	checkDo(t, beside, s, h, purge.Report{Points: 3, Windows: 3}, api.OK)
	checkTold(t, "held, behind a purge beside it", s, left)
	h.Release("case-1")
	left, _ = left.purged(x.r)
	checkDo(t, x, s, h, purge.Report{Points: 2, Windows: 2}, api.OK)
	checkTold(t, "behind a release", s, left)
	h.Add(held("cpu", 3000, 3001))
	checkDo(t, x, s, h, purge.Report{}, api.ErrHeld)
	checkTold(t, "held again", s, left)
}

// P20.1, P20.2: all ranges and holds with ends at windows' edges, and a tick beside them.
func TestAllNearEdges(t *testing.T) {
	ends := []int64{0, 1, 299, 300, 301, 3599, 3600, 3601, 7199, 7200, 7201}
	all := usual(t)
	for i, from := range ends {
		for _, end := range ends[i+1:] {
			x := scene{l: all, series: "cpu", r: to(from, end)}
			x.run(t)
			for j, first := range ends {
				for _, last := range ends[j+1:] {
					x.holds = []api.Hold{held([]string{"cpu", "", "mem"}[(i+j)%3], first, last)}
					x.run(t)
				}
			}
		}
	}
}

// P20.1, P20.2: all ranges with ends of -1 to 7, and near windows' edges and the last tick, on all sets of six points there, with a hold that meets some of the reaches and without it.
func TestAllSmall(t *testing.T) {
	for _, base := range []int64{0, 297, 3597, maxTime - 5} {
		for set := range 1 << 6 {
			var l lists
			for i := range int64(6) {
				if set>>i&1 == 1 {
					l.points = append(l.points, api.Point{At: base + i, Value: 1 << i})
				}
			}
			if base < 7200 {
				l = rolled(t, 7200, l.points)
			}
			for from := base - 1; from <= base+7; from++ {
				for end := base - 1; end <= base+7; end++ {
					x := scene{l: l, series: "cpu", r: to(from, end)}
					x.run(t)
					x.holds = []api.Hold{held("cpu", base+3, base+4)}
					x.run(t)
				}
			}
		}
	}
}
