package hold_test

import (
	"iter"
	"slices"
	"strings"
	"testing"

	"catacomb/api"
	"catacomb/hold"
)

// checkAll holds what a table tells of its holds against some written by hand.
func checkAll(t *testing.T, h *hold.Table, want ...api.Hold) {
	t.Helper()
	if got := slices.Collect(h.All()); !slices.Equal(got, want) {
		t.Fatalf("All: %v, want %v", got, want)
	}
}

func checkErrno(t *testing.T, what string, got, want api.Errno) {
	t.Helper()
	if got != want {
		t.Fatalf("%s: %d, want %d", what, int(got), int(want))
	}
}

func checkCovers(t *testing.T, h *hold.Table, series string, at int64, want bool) {
	t.Helper()
	if h.Covers(series, at) != want {
		t.Fatalf("Covers(%q, %d): %v", series, at, !want)
	}
}

func checkMeets(t *testing.T, h *hold.Table, series string, from, to int64, want bool) {
	t.Helper()
	if h.Meets(series, api.Range{From: from, To: to}) != want {
		t.Fatalf("Meets(%q, %d to %d): %v", series, from, to, !want)
	}
}

func checkAny(t *testing.T, h *hold.Table, series string, want bool) {
	t.Helper()
	if h.Any(series) != want {
		t.Fatalf("Any(%q): %v", series, !want)
	}
}

// P17.1: the chapter's example, and the document's sixth one, of a hold.
func TestExample(t *testing.T) {
	h := hold.New()
	checkErrno(t, "Add", h.Add(one("case-1", "cpu", 10, 20)), api.OK)
	checkCovers(t, h, "cpu", 19, true)
	checkCovers(t, h, "cpu", 20, false)
	checkCovers(t, h, "mem", 19, false)
	checkMeets(t, h, "cpu", 0, 5, false)
	checkMeets(t, h, "cpu", 0, 3600, true)
	checkMeets(t, h, "mem", 0, 3600, false)
}

// P17.1: a new table has no holds, and each one is another one.
func TestNew(t *testing.T) {
	x := fresh(t)
	x.check()
	checkAll(t, x.h)
	x.release("a", api.ErrNone)
	other := hold.New()
	x.add(one("a", "", 0, 1), api.OK)
	if hold.New().Len() != 0 || other.Len() != 0 || other.Covers("cpu", 0) {
		t.Fatal("a hold of another table")
	}
}

// P17.1: holds are told as they were added, and counted.
func TestAdd(t *testing.T) {
	h := hold.New()
	checkErrno(t, "Add", h.Add(one("case-1", "cpu", 10, 20)), api.OK)
	checkAll(t, h, one("case-1", "cpu", 10, 20))
	checkErrno(t, "Add", h.Add(one("audit", "", 0, maxTime+1)), api.OK)
	checkAll(t, h, one("audit", "", 0, maxTime+1), one("case-1", "cpu", 10, 20))
	checkErrno(t, "Add", h.Add(one("zz", "cpu", 10, 20)), api.OK)
	checkAll(t, h, one("audit", "", 0, maxTime+1), one("case-1", "cpu", 10, 20), one("zz", "cpu", 10, 20))
	if h.Len() != 3 {
		t.Fatal(h.Len())
	}
}

// right are names of all lengths, at the ends of what may stand in one.
func right() []string {
	return []string{"a", "z", "m", "a0", "z9", "a-", "a--", "case-1", "abcdefghijklmnop", "qrstuvwxyz012345", "n6789----------z", "a---------------", "z999999999999999", "aaaaaaaaaaaaaaa"}
}

// wrong are texts, not empty, that are no names.
func wrong() []string {
	return []string{
		"0", "9", "-", "0a", "-a", "A", "Z", "Case", "cAse", "CPU", "a_b", "a.b", "a b", " a", "a ", " ", "a/b", "/", "a/", "/a", "a`", "a{", "a@", "a:", "a,",
		"\x00", "a\x00", "\x00a", "a\n", "\na", "a\x7f", "a\x80", "\xff", "a\xff", "\u00e9", "caf\u00e9", "\u0430", "a\u212a", "\uff41", "*",
		"aaaaaaaaaaaaaaaaa", "abcdefghijklmnop-", "abcdefghijklmnopq", "abcdefghijklmno\x00p", strings.Repeat("a", 32), strings.Repeat("a", 256), strings.Repeat("a", 257), strings.Repeat("a", 65537),
	}
}

// P17.1: whatever is a name may be a hold's, and a series' one.
func TestAddNames(t *testing.T) {
	for _, name := range right() {
		x := with(t, one(name, "cpu", 10, 20))
		checkAll(t, x.h, one(name, "cpu", 10, 20))
		x = with(t, one("case-1", name, 10, 20))
		checkAll(t, x.h, one("case-1", name, 10, 20))
		checkCovers(t, x.h, name, 10, true)
		checkMeets(t, x.h, name, 0, 11, true)
		checkAny(t, x.h, name, true)
		checkAny(t, x.h, name+"x", false)
		with(t, one(name, name, 10, 20)).release(name, api.OK)
	}
}

// P17.1: no name, no hold; of a series an empty text may be, too.
func TestAddNoNames(t *testing.T) {
	for _, x := range []*both{fresh(t), with(t, one("case-1", "cpu", 10, 20)), with(t, full()...)} {
		x.add(one("", "cpu", 10, 20), api.ErrName)
		x.add(one("", "", 10, 20), api.ErrName)
		for _, text := range wrong() {
			x.add(one(text, "cpu", 10, 20), api.ErrName)
			x.add(one(text, "", 10, 20), api.ErrName)
			x.add(one("new", text, 10, 20), api.ErrName)
			x.add(one(text, text, 10, 20), api.ErrName)
		}
		x.check()
	}
}

// P17.1: each byte that is none of a name's, at each of its places.
func TestAddEachByte(t *testing.T) {
	for b := range 256 {
		for place := range 3 {
			text := []byte("a-9")
			text[place] = byte(b)
			want := api.ErrName
			if b >= 'a' && b <= 'z' || place > 0 && (b >= '0' && b <= '9' || b == '-') {
				want = api.OK
			}
			fresh(t).add(one(string(text), "", 10, 20), want)
			fresh(t).add(one("case-1", string(text), 10, 20), want)
		}
	}
}

// P17.1: ranges that are right in each way.
func TestAddRanges(t *testing.T) {
	for _, r := range []api.Range{
		{From: 0, To: 1}, {From: 0, To: 2}, {From: 10, To: 11}, {From: 10, To: 20}, {From: 0, To: maxTime}, {From: 0, To: maxTime + 1}, {From: 1, To: maxTime + 1},
		{From: maxTime - 1, To: maxTime}, {From: maxTime - 1, To: maxTime + 1}, {From: maxTime, To: maxTime + 1},
	} {
		for _, series := range []string{"", "cpu"} {
			x := with(t, one("case-1", series, r.From, r.To))
			checkAll(t, x.h, one("case-1", series, r.From, r.To))
			checkCovers(t, x.h, "cpu", r.From-1, false)
			checkCovers(t, x.h, "cpu", r.From, true)
			checkCovers(t, x.h, "cpu", r.To-1, true)
			checkCovers(t, x.h, "cpu", r.To, false)
		}
	}
}

// noRanges are ranges that aren't right, in each way that there is.
func noRanges() []api.Range {
	return []api.Range{
		{}, {From: 5, To: 5}, {From: maxTime, To: maxTime}, {From: maxTime + 1, To: maxTime + 1}, {From: 1, To: 0}, {From: 20, To: 10}, {From: maxTime + 1, To: 0}, {From: maxTime + 1, To: maxTime},
		{From: -1, To: 0}, {From: -1, To: 1}, {From: -1, To: 20}, {From: -1, To: -1}, {From: -5, To: -3}, {From: -1, To: maxTime + 1}, {From: -1, To: maxTime + 2}, {From: 0, To: -1}, {From: 0, To: 0},
		{From: 0, To: maxTime + 2}, {From: 10, To: maxTime + 2}, {From: maxTime, To: maxTime + 2}, {From: maxTime + 1, To: maxTime + 2}, {From: maxTime + 2, To: maxTime + 3},
		{From: least, To: greatest}, {From: least, To: 20}, {From: least, To: least}, {From: least, To: least + 1}, {From: 10, To: greatest}, {From: greatest, To: greatest}, {From: greatest - 1, To: greatest}, {From: greatest, To: least}, {From: 0, To: least}, {From: greatest, To: 0},
	}
}

// P17.1: no range that isn't right goes in.
func TestAddNoRanges(t *testing.T) {
	for _, x := range []*both{fresh(t), with(t, one("case-1", "cpu", 10, 20)), with(t, full()...)} {
		for _, r := range noRanges() {
			x.add(one("new", "cpu", r.From, r.To), api.ErrRange)
			x.add(one("new", "", r.From, r.To), api.ErrRange)
		}
		x.check()
	}
}

// P17.1: of one name there is one hold, whatever its series and range.
func TestAddSame(t *testing.T) {
	x := with(t, one("case-1", "cpu", 10, 20), one("case-2", "", 30, 40))
	x.add(one("case-1", "cpu", 10, 20), api.ErrSame)
	x.add(one("case-1", "mem", 10, 20), api.ErrSame)
	x.add(one("case-1", "", 10, 20), api.ErrSame)
	x.add(one("case-1", "cpu", 50, 60), api.ErrSame)
	x.add(one("case-1", "mem", 0, maxTime+1), api.ErrSame)
	x.add(one("case-2", "cpu", 30, 40), api.ErrSame)
	x.add(one("case-2", "", 0, 1), api.ErrSame)
	x.check()
	checkAll(t, x.h, one("case-1", "cpu", 10, 20), one("case-2", "", 30, 40))
	// Of other names there may be the same, and names may be those of series.
	x.add(one("case-3", "cpu", 10, 20), api.OK)
	x.add(one("cpu", "cpu", 10, 20), api.OK)
	x.add(one("case-", "case-1", 10, 20), api.OK)
	x.check()
}

// P17.1: one that was released may be added again, as another one.
func TestAddReleased(t *testing.T) {
	x := with(t, one("case-1", "cpu", 10, 20))
	x.release("case-1", api.OK)
	x.add(one("case-1", "mem", 30, 40), api.OK)
	x.check()
	checkAll(t, x.h, one("case-1", "mem", 30, 40))
	checkCovers(t, x.h, "cpu", 10, false)
	checkCovers(t, x.h, "mem", 10, false)
	checkCovers(t, x.h, "mem", 30, true)
	x.add(one("case-1", "cpu", 10, 20), api.ErrSame)
	x.release("case-1", api.OK)
	x.add(one("case-1", "cpu", 10, 20), api.OK)
	x.check()
}

// P17.1: as many as a table has room for go in, and no more till one is released.
func TestAddFull(t *testing.T) {
	x := fresh(t)
	for _, h := range full() {
		x.add(h, api.OK)
		x.check()
	}
	if x.h.Len() != most {
		t.Fatal(x.h.Len())
	}
	for _, h := range []api.Hold{one("new", "cpu", 10, 20), one("new", "", 0, 1), one("new", "new", maxTime, maxTime+1)} {
		x.add(h, api.ErrFull)
	}
	x.check()
	for i, name := range names() {
		x.release(name, api.OK)
		x.add(one("new", "mem", 1000, 1001), api.OK)
		x.add(one(name, "mem", 1000, 1001), api.ErrFull)
		x.release("new", api.OK)
		x.add(one(name, "mem", 1000, 1001+int64(i)), api.OK)
		x.add(one("new", "cpu", 10, 20), api.ErrFull)
		x.check()
	}
}

// P17.1, R2: of several errors the one that the chapter names first.
func TestAddErrorsInOrder(t *testing.T) {
	there := full()[3]
	few, many := with(t, there), with(t, full()...)
	for _, x := range []*both{few, many} {
		x.add(one("", there.Series, 5, 5), api.ErrName)
		x.add(one("No", there.Series, 10, 20), api.ErrName)
		x.add(one("No", "No", -1, greatest), api.ErrName)
		x.add(one(there.Name, "No", 10, 20), api.ErrName)
		x.add(one(there.Name, "No", 20, 10), api.ErrName)
		x.add(one("new", "No", 20, 10), api.ErrName)
		x.add(one(there.Name, "", 20, 10), api.ErrRange)
		x.add(one(there.Name, there.Series, 0, maxTime+2), api.ErrRange)
		x.add(one("new", "", 20, 10), api.ErrRange)
		x.add(one(there.Name, there.Series, 10, 20), api.ErrSame)
		x.add(one(there.Name, "", 0, maxTime+1), api.ErrSame)
		x.check()
	}
	many.add(one("new", "", 10, 20), api.ErrFull)
	few.add(one("new", "", 10, 20), api.OK)
	var none *hold.Table
	for _, h := range []api.Hold{{}, one("No", "No", 5, 5), one("new", "", 5, 5), one("new", "", 10, 20)} {
		checkErrno(t, "Add to nothing", none.Add(h), api.ErrArg)
	}
}

// P17.1: one that is there goes, once; of others nothing goes.
func TestRelease(t *testing.T) {
	x := with(t, one("case-1", "cpu", 10, 20), one("case-2", "cpu", 15, 30), one("case-3", "", 40, 50))
	for _, name := range append(wrong(), "", "case", "case-", "case-4", "case-11", "Case-1", "cpu", "mem") {
		x.release(name, api.ErrNone)
	}
	x.check()
	x.release("case-1", api.OK)
	x.check()
	checkAll(t, x.h, one("case-2", "cpu", 15, 30), one("case-3", "", 40, 50))
	checkCovers(t, x.h, "cpu", 14, false)
	checkCovers(t, x.h, "cpu", 15, true)
	x.release("case-1", api.ErrNone)
	x.release("case-3", api.OK)
	checkAny(t, x.h, "mem", false)
	checkCovers(t, x.h, "cpu", 40, false)
	x.release("case-2", api.OK)
	x.check()
	checkAll(t, x.h)
	x.release("case-2", api.ErrNone)
	x.add(one("case-2", "cpu", 10, 20), api.OK)
	x.check()
}

// P17.1: a full table, released one by one, in several orders.
func TestReleaseAll(t *testing.T) {
	for step := 1; step < most; step += 2 {
		x := with(t, full()...)
		for i := range most {
			name := names()[i*step%most]
			x.release(name, api.OK)
			x.release(name, api.ErrNone)
			x.check()
		}
		checkAll(t, x.h)
	}
}

// P17.1: a hold of a series covers that one's ticks alone, from its first one up to its last one.
func TestCovers(t *testing.T) {
	h := with(t, one("case-1", "cpu", 10, 20)).h
	for at, want := range map[int64]bool{least: false, -1: false, 0: false, 9: false, 10: true, 11: true, 18: true, 19: true, 20: false, 21: false, maxTime: false, greatest: false} {
		checkCovers(t, h, "cpu", at, want)
	}
	for _, series := range append(wrong(), "", "mem", "cp", "cpu0", "cpu-", "pu", "case-1") {
		for at := range int64(30) {
			checkCovers(t, h, series, at, false)
		}
	}
}

// P17.1: a hold of all covers the ticks of any text.
func TestCoversAll(t *testing.T) {
	h := with(t, one("case-1", "", 10, 20)).h
	for _, series := range append(append(right(), wrong()...), "", "cpu") {
		checkCovers(t, h, series, 9, false)
		checkCovers(t, h, series, 10, true)
		checkCovers(t, h, series, 19, true)
		checkCovers(t, h, series, 20, false)
		checkMeets(t, h, series, 19, 30, true)
		checkMeets(t, h, series, 20, 30, false)
		checkAny(t, h, series, true)
	}
}

// P17.1: at the ends of what may be held.
func TestCoversAtEnds(t *testing.T) {
	first, last := with(t, one("a", "cpu", 0, 1)).h, with(t, one("a", "cpu", maxTime, maxTime+1)).h
	whole := with(t, one("a", "", 0, maxTime+1)).h
	for _, at := range []int64{least, least + 1, -maxTime, -2, -1, 0, 1, 2, 300, maxTime - 1, maxTime, maxTime + 1, maxTime + 2, 2 * maxTime, greatest - 1, greatest} {
		checkCovers(t, first, "cpu", at, at == 0)
		checkCovers(t, last, "cpu", at, at == maxTime)
		checkCovers(t, whole, "cpu", at, at >= 0 && at <= maxTime)
	}
}

// P17.1: a tick that one covers is covered, whatever the others cover, and as long as one does.
func TestCoversByOneOfSeveral(t *testing.T) {
	x := with(t, one("a", "cpu", 10, 20), one("b", "cpu", 15, 25), one("c", "mem", 0, 100), one("d", "", 24, 30))
	for at := range int64(40) {
		checkCovers(t, x.h, "cpu", at, at >= 10 && at < 30)
		checkCovers(t, x.h, "mem", at, true)
		checkCovers(t, x.h, "disk", at, at >= 24 && at < 30)
	}
	x.release("b", api.OK)
	for at := range int64(40) {
		checkCovers(t, x.h, "cpu", at, at >= 10 && at < 20 || at >= 24 && at < 30)
	}
	x.release("c", api.OK)
	for at := range int64(40) {
		checkCovers(t, x.h, "mem", at, at >= 24 && at < 30)
	}
}

// P17.1: ranges that have ticks in common with a hold, and such that have none.
func TestMeets(t *testing.T) {
	h := with(t, one("case-1", "cpu", 10, 20)).h
	for _, x := range []struct {
		from, to int64
		want     bool
	}{
		// One tick in common, at either end, and none beside it.
		{0, 11, true}, {10, 11, true}, {0, 10, false}, {9, 10, false}, {19, 30, true}, {19, 20, true}, {20, 30, false}, {20, 21, false},
		// In the hold, the hold in it, the same.
		{12, 15, true}, {14, 15, true}, {5, 25, true}, {9, 21, true}, {10, 21, true}, {9, 20, true}, {10, 20, true}, {0, maxTime + 1, true},
		// Not right, but with ticks.
		{-5, 10, false}, {-5, 11, true}, {-1, 0, false}, {least, 10, false}, {least, 11, true}, {19, maxTime + 2, true}, {20, maxTime + 2, false}, {19, greatest, true}, {20, greatest, false}, {least, greatest, true},
		// Without ticks.
		{0, 0, false}, {10, 10, false}, {15, 15, false}, {19, 19, false}, {16, 15, false}, {20, 10, false}, {25, 5, false}, {15, 5, false}, {25, 15, false}, {greatest, least, false}, {15, least, false}, {greatest, 15, false}, {greatest, greatest, false}, {least, least, false},
	} {
		checkMeets(t, h, "cpu", x.from, x.to, x.want)
		checkMeets(t, h, "mem", x.from, x.to, false)
		checkMeets(t, h, "", x.from, x.to, false)
	}
}

// P17.1: ranges between holds, and over several.
func TestMeetsBetween(t *testing.T) {
	h := with(t, one("a", "cpu", 10, 20), one("b", "cpu", 30, 40), one("c", "mem", 20, 30)).h
	checkMeets(t, h, "cpu", 20, 30, false)
	checkMeets(t, h, "cpu", 22, 28, false)
	checkMeets(t, h, "cpu", 19, 30, true)
	checkMeets(t, h, "cpu", 20, 31, true)
	checkMeets(t, h, "cpu", 0, 100, true)
	checkMeets(t, h, "cpu", 15, 35, true)
	checkMeets(t, h, "mem", 20, 30, true)
	checkMeets(t, h, "mem", 0, 20, false)
	checkMeets(t, h, "mem", 30, 100, false)
	checkMeets(t, h, "", 0, 100, false)
	checkMeets(t, h, "disk", 0, 100, false)
}

// P17.1: is there one of a series, or of all, wherever its range lies?
func TestAny(t *testing.T) {
	x := with(t, one("case-1", "cpu", 10, 20))
	checkAny(t, x.h, "cpu", true)
	for _, series := range append(wrong(), "", "mem", "cp", "cpu0", "case-1") {
		checkAny(t, x.h, series, false)
	}
	x.add(one("case-2", "mem", maxTime, maxTime+1), api.OK)
	checkAny(t, x.h, "mem", true)
	checkAny(t, x.h, "disk", false)
	x.add(one("case-3", "", 0, 1), api.OK)
	for _, series := range append(append(right(), wrong()...), "", "disk", "cpu", "mem") {
		checkAny(t, x.h, series, true)
	}
	x.release("case-3", api.OK)
	checkAny(t, x.h, "disk", false)
	checkAny(t, x.h, "", false)
	x.release("case-1", api.OK)
	checkAny(t, x.h, "cpu", false)
	checkAny(t, x.h, "mem", true)
	x.release("case-2", api.OK)
	checkAny(t, x.h, "mem", false)
	x.check()
}

// P17.1: whatever the order they were added in, holds are told rising by names.
func TestAllInOrder(t *testing.T) {
	want := full()
	slices.Reverse(want)
	for step := 1; step < most; step += 2 {
		for from := range most {
			h := hold.New()
			for i := range most {
				checkErrno(t, "Add", h.Add(want[(from+i*step)%most]), api.OK)
			}
			checkAll(t, h, want...)
			// A map's order may be another one each time.
			checkAll(t, h, want...)
			checkAll(t, h.Copy(), want...)
		}
	}
	// By names, not by series or ranges.
	checkAll(t, with(t, one("b", "a", 0, 1), one("a", "b", 5, 9), one("c", "", 3, 4)).h, one("a", "b", 5, 9), one("b", "a", 0, 1), one("c", "", 3, 4))
}

// firsts are so many as an iterator tells till it is stopped.
func firsts(t *testing.T, seq iter.Seq[api.Hold], number int) []api.Hold {
	t.Helper()
	var l []api.Hold
	stopped := false
	seq(func(h api.Hold) bool {
		if stopped {
			t.Fatalf("%v is told behind the stop", h)
		}
		l = append(l, h)
		stopped = len(l) == number
		return !stopped
	})
	return l
}

// P17.1: left amid, nothing more is told, and the next time it begins anew.
func TestAllLeft(t *testing.T) {
	want := full()
	slices.Reverse(want)
	x := with(t, full()...)
	seq := x.h.All()
	for number := 1; number <= most; number++ {
		if got := firsts(t, seq, number); !slices.Equal(got, want[:number]) {
			t.Fatalf("left at %d: %v", number, got)
		}
	}
	for range 3 {
		if got := slices.Collect(seq); !slices.Equal(got, want) {
			t.Fatalf("behind being left: %v", got)
		}
	}
	if got := firsts(t, with(t, one("a", "", 0, 1)).h.All(), 1); !slices.Equal(got, []api.Hold{one("a", "", 0, 1)}) {
		t.Fatal(got)
	}
	if got := firsts(t, hold.New().All(), 1); len(got) > 0 {
		t.Fatal(got)
	}
	x.check()
}

// P17.1: one iterator amid another one, and amid itself.
func TestAllAmid(t *testing.T) {
	want := full()
	slices.Reverse(want)
	seq := with(t, full()...).h.All()
	n := 0
	for h := range seq {
		if h != want[n] || !slices.Equal(slices.Collect(seq), want) {
			t.Fatalf("%v at %d", h, n)
		}
		n++
	}
	next, stop := iter.Pull(seq)
	defer stop()
	other, stopOther := iter.Pull(seq)
	defer stopOther()
	for i := range want {
		a, _ := next()
		b, _ := other()
		if a != want[i] || b != want[i] {
			t.Fatalf("%v and %v at %d", a, b, i)
		}
	}
}

// P17.1: a copy has the same, and both go on by themselves.
func TestCopy(t *testing.T) {
	for _, holds := range [][]api.Hold{nil, {one("a", "cpu", 10, 20)}, {one("a", "cpu", 10, 20), one("b", "", 30, 40)}, full()} {
		x := with(t, holds...)
		c := &both{t: t, h: x.h.Copy(), l: x.l}
		c.check()
		for _, act := range []func(x *both){
			func(x *both) { x.h.Release("a"); x.l, _ = x.l.release("a") },
			func(x *both) { h := one("a", "mem", 50, 60); x.h.Add(h); x.l, _ = x.l.add(h) },
			func(x *both) { h := one("new", "", 70, 80); x.h.Add(h); x.l, _ = x.l.add(h) },
			func(x *both) { x.h.Release("new"); x.l, _ = x.l.release("new") },
		} {
			act(x)
			x.check()
			c.check()
		}
		for _, act := range []func(x *both){
			func(x *both) { h := one("other", "disk-1", 90, 91); x.h.Add(h); x.l, _ = x.l.add(h) },
			func(x *both) { x.h.Release("b"); x.l, _ = x.l.release("b") },
			func(x *both) { h := one("b", "cpu0", 90, 91); x.h.Add(h); x.l, _ = x.l.add(h) },
		} {
			act(c)
			c.check()
			x.check()
		}
		// A copy of a copy, too.
		d := &both{t: t, h: c.h.Copy(), l: c.l}
		c.h.Release("b")
		c.l, _ = c.l.release("b")
		d.check()
	}
}

// P17.1: on a nil table.
func TestNil(t *testing.T) {
	var none *hold.Table
	for range 2 {
		for _, h := range append(full(), api.Hold{}, one("No", "", 0, 1), one("a", "", 5, 5)) {
			checkErrno(t, "Add", none.Add(h), api.ErrArg)
		}
		for _, name := range append(names(), "", "No", "new") {
			checkErrno(t, "Release", none.Release(name), api.ErrArg)
		}
		checkTicks(t, none, nil, []int64{least, -1, 0, 10, 20, maxTime, maxTime + 1, greatest})
		checkHeld(t, none, nil)
		if none.Copy() != nil {
			t.Fatal("Copy: a table")
		}
	}
}

// R1: a table that New didn't make is of no use, but ends no program.
func TestNotMade(t *testing.T) {
	h := &hold.Table{}
	h.Covers("cpu", 10)
	h.Release("a")
	h.Copy().Add(one("a", "", 10, 20))
	h.Add(one("a", "", 10, 20))
	firsts(t, h.All(), 1)
}
