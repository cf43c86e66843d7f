package hold_test

import (
	"slices"
	"strings"
	"testing"
	"unsafe"

	"catacomb/api"
	"catacomb/hold"
)

// own is a text in memory of the test's own, and that memory.
func own(s string) (string, []byte) {
	if s == "" {
		return "", nil
	}
	b := []byte(s)
	return unsafe.String(&b[0], len(b)), b
}

// spoil writes other signs over memory.
func spoil(b []byte) {
	for i := range b {
		b[i] = 'x'
	}
}

// P17.2: what was added isn't kept, and isn't changed.
func TestAddMemory(t *testing.T) {
	for _, h := range full() {
		x := fresh(t)
		name, nameOwn := own(h.Name)
		series, seriesOwn := own(h.Series)
		checkErrno(t, "Add", x.h.Add(api.Hold{Name: name, Series: series, Range: h.Range}), api.OK)
		if string(nameOwn) != h.Name || string(seriesOwn) != h.Series {
			t.Fatalf("what was handed in is changed: %q, %q", nameOwn, seriesOwn)
		}
		spoil(nameOwn)
		spoil(seriesOwn)
		x.l = list{h}
		x.check()
		c := &both{t: t, h: x.h.Copy(), l: x.l}
		c.check()
		x.add(h, api.ErrSame)
		x.release(name, api.ErrNone)
		x.release(h.Name, api.OK)
	}
}

// P17.2: what was refused isn't kept, and isn't changed; what is there stays.
func TestAddRefusedMemory(t *testing.T) {
	x := with(t, full()...)
	for _, h := range []api.Hold{one("a", "mem", 10, 20), one("new", "cpu", 10, 20), one("new", "cpu", 20, 10), one("No", "cpu", 10, 20), one("new", "No", 10, 20)} {
		name, nameOwn := own(h.Name)
		series, seriesOwn := own(h.Series)
		if e := x.h.Add(api.Hold{Name: name, Series: series, Range: h.Range}); e == api.OK {
			t.Fatalf("%v went in", h)
		}
		if string(nameOwn) != h.Name || string(seriesOwn) != h.Series {
			t.Fatalf("what was handed in is changed: %q, %q", nameOwn, seriesOwn)
		}
		spoil(nameOwn)
		spoil(seriesOwn)
		x.check()
	}
}

// P17.2: texts that are asked of aren't kept, nor changed.
func TestAskedMemory(t *testing.T) {
	x := with(t, full()...)
	for _, s := range []string{"cpu", "mem", "a", "a-0", "z999999999999999", "No", "nothing"} {
		text, textOwn := own(s)
		x.h.Covers(text, 10)
		x.h.Meets(text, api.Range{From: 0, To: 100})
		x.h.Any(text)
		_, want := x.l.release(s)
		x.release(text, want)
		if string(textOwn) != s {
			t.Fatalf("what was handed in is changed: %q", textOwn)
		}
		spoil(textOwn)
		x.check()
	}
}

// P17.2: a hold that was handed in, or told, may be written over.
func TestHoldMemory(t *testing.T) {
	h := one("case-1", "cpu", 10, 20)
	x := fresh(t)
	checkErrno(t, "Add", x.h.Add(h), api.OK)
	x.l = list{h}
	h.Name, h.Series, h.Range = "other", "mem", api.Range{From: 30, To: 40}
	x.check()
	for range 2 {
		for h := range x.h.All() {
			h.Name, h.Series, h.Range.From, h.Range.To = "other", "mem", 30, 40
		}
		for _, h := range slices.Collect(x.h.All()) {
			h.Series, h.Range = "", api.Range{}
		}
		x.check()
	}
}

// texts are those of some holds, but empty ones.
func texts(l []api.Hold) []string {
	var all []string
	for _, h := range l {
		for _, s := range []string{h.Name, h.Series} {
			if s != "" {
				all = append(all, s)
			}
		}
	}
	return all
}

// shares tells whether two texts have memory in common.
func shares(a, b string) bool {
	from, at := uintptr(unsafe.Pointer(unsafe.StringData(a))), uintptr(unsafe.Pointer(unsafe.StringData(b)))
	return from < at+uintptr(len(b)) && at < from+uintptr(len(a))
}

// P17.2: what is told shares no memory with what was handed in, nor with what is told besides.
func TestToldMemory(t *testing.T) {
	series := strings.Clone("cpu")
	l := []api.Hold{one(strings.Clone("a"), series, 10, 20), one(strings.Clone("b"), series, 30, 40), one(series, series, 50, 60), one(strings.Clone("d"), "", 70, 80)}
	x := with(t, l...)
	seq, c := x.h.All(), x.h.Copy()
	told := texts(slices.Concat(slices.Collect(seq), slices.Collect(seq), slices.Collect(x.h.All()), slices.Collect(c.All()), slices.Collect(c.Copy().All())))
	for i, s := range told {
		for _, other := range slices.Concat(texts(l[:3]), told[:i]) {
			if shares(s, other) {
				t.Fatalf("%q, the %d-th one told, shares memory with %q", s, i, other)
			}
		}
	}
	// So they may be written over.
	for _, s := range told {
		spoil(unsafe.Slice(unsafe.StringData(s), len(s)))
	}
	if got := slices.Collect(seq); !slices.Equal(got, x.l.rising()) {
		t.Fatalf("%v behind a change of what it told", got)
	}
	x.check()
	(&both{t: t, h: c, l: x.l}).check()
	x.release("a", api.OK)
	x.add(one("a", "mem", 10, 20), api.OK)
}

// P17.2: a list that was told may be changed and added to.
func TestListMemory(t *testing.T) {
	x := with(t, full()...)
	l, keep := slices.Collect(x.h.All()), slices.Collect(x.h.All())
	l = l[:cap(l)]
	for i := range l {
		l[i] = one("stray", "stray", 1, 2)
	}
	_ = append(l[:3], one("stray", "", 3, 4))
	if !slices.Equal(keep, x.l.rising()) {
		t.Fatalf("%v behind a change of another list", keep)
	}
	x.check()
}

// acts are changes of a full table.
func acts() []func(h *hold.Table) {
	return []func(h *hold.Table){
		func(h *hold.Table) { h.Release("a") },
		func(h *hold.Table) { h.Release("z999999999999999") },
		func(h *hold.Table) { h.Release("b") },
		func(h *hold.Table) { h.Release("b"); h.Add(one("b", "", 0, maxTime+1)) },
		func(h *hold.Table) { h.Release("b"); h.Add(one("aaa", "mem", 5, 6)) },
		func(h *hold.Table) { h.Release("b"); h.Release("z"); h.Add(one("zz", "mem", 5, 6)) },
		func(h *hold.Table) {
			for _, name := range names() {
				h.Release(name)
			}
		},
		func(h *hold.Table) {
			for _, name := range names() {
				h.Release(name)
				h.Add(one(name, "new", 7, 8))
			}
		},
	}
}

// P17.2: what was told stays as it was, and so does an iterator, whatever is done to the table.
func TestToldStays(t *testing.T) {
	for _, act := range acts() {
		x := with(t, full()...)
		want := x.l.rising()
		seq := x.h.All()
		told := slices.Collect(seq)
		act(x.h)
		if !slices.Equal(told, want) {
			t.Fatalf("%v behind a change of the table", told)
		}
		if got := slices.Collect(seq); !slices.Equal(got, want) {
			t.Fatalf("the iterator tells %v behind a change of the table", got)
		}
		x.l = slices.Collect(x.h.All())
		x.check()
	}
}

// P17.2: a change of the table amid a range over All changes nothing of what is told, and is done.
func TestChangeAmid(t *testing.T) {
	for _, act := range acts() {
		after := with(t, full()...).h
		act(after)
		want := list(full()).rising()
		for when := range most {
			x := with(t, full()...)
			var told []api.Hold
			for h := range x.h.All() {
				if len(told) == when {
					act(x.h)
				}
				told = append(told, h)
			}
			if !slices.Equal(told, want) {
				t.Fatalf("%v with a change at %d", told, when)
			}
			checkHeld(t, x.h, slices.Collect(after.All()))
		}
	}
}

// P17.2: each hold may be released, and others added, as they are told.
func TestReleaseAmid(t *testing.T) {
	x := with(t, full()...)
	n := 0
	for h := range x.h.All() {
		x.release(h.Name, api.OK)
		n++
	}
	if n != most || x.h.Len() != 0 {
		t.Fatalf("%d were told, and %d are left", n, x.h.Len())
	}
	x = with(t, one("m", "cpu", 10, 20))
	n = 0
	for h := range x.h.All() {
		x.add(one("a", h.Series, 0, 1), api.OK)
		x.add(one("z", h.Series, 0, 1), api.OK)
		n++
	}
	if n != 1 {
		t.Fatalf("%d were told", n)
	}
	x.check()
}

// P17.2, R5: what is asked changes nothing.
func TestAskingChangesNothing(t *testing.T) {
	for _, holds := range [][]api.Hold{nil, {one("a", "cpu", 10, 20)}, full()} {
		x := with(t, holds...)
		for range 3 {
			for _, s := range slices.Concat(asked(), wrong(), names()) {
				x.h.Covers(s, 10)
				x.h.Meets(s, api.Range{From: least, To: greatest})
				x.h.Any(s)
			}
			x.h.Copy().Release("a")
			x.h.Copy().Add(one("new", "", 0, 1))
			firsts(t, x.h.All(), 1)
			x.check()
		}
	}
}
