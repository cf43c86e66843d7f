package octet

import (
	"bytes"
	"encoding/binary"
	"fmt"
	"math"
	"math/big"
	"math/rand"
	"slices"
	"strings"
	"testing"

	"catacomb/api"
)

const (
	greatest = math.MaxUint64
	bound    = 65535 // of a text, and a row
)

// noWidths are no widths of numbers.
func noWidths() []int {
	l := []int{3, 5, 6, 7, 64, 258, 1 << 32, 1<<32 + 1, 1<<62 + 1, math.MinInt, math.MinInt + 1, math.MaxInt}
	for n := -9; n <= 40; n++ {
		if n != 1 && n != 2 && n != 4 && n != 8 {
			l = append(l, n)
		}
	}
	return l
}

// number is a number as so many bytes, by big.Int.
func number(x uint64, width int) []byte {
	return new(big.Int).SetUint64(x).FillBytes(make([]byte, width))
}

// signed is a signed number's eight bytes.
func signed(x int64) []byte { return binary.BigEndian.AppendUint64(nil, uint64(x)) }

// text is a text's length, and its bytes.
func text(s string) []byte { return slices.Concat(number(uint64(len(s)), 2), []byte(s)) }

func checkErr(t *testing.T, what string, got, want api.Errno) {
	t.Helper()
	if got != want {
		t.Errorf("%s: error %d, want %d", what, got, want)
	}
}

// short tells bytes, if they are few.
func short(b []byte) string {
	if len(b) > 100 {
		return fmt.Sprintf("%v.. (%d in all)", b[:100], len(b))
	}
	return fmt.Sprint(b)
}

// checkBytes holds what a writer tells against bytes.
func checkBytes(t *testing.T, w *Writer, want []byte) {
	t.Helper()
	if got := w.Bytes(); !bytes.Equal(got, want) {
		t.Errorf("Bytes: %s, want %s", short(got), short(want))
	}
}

// checkReader holds how many bytes are left, and the error, against those wanted; End goes by them.
func checkReader(t *testing.T, r *Reader, left int, e api.Errno) {
	t.Helper()
	if r.Left() != left || r.Err() != e {
		t.Errorf("%d left, error %d; want %d, %d", r.Left(), r.Err(), left, e)
	}
	if e == api.OK && left > 0 {
		e = api.ErrLong
	}
	checkErr(t, "End", r.End(), e)
}

// checkFailed asks for everything: behind an error all is nothing, and the error stays.
func checkFailed(t *testing.T, r *Reader, e api.Errno) {
	t.Helper()
	checkReader(t, r, 0, e)
	for _, width := range []int{1, 2, 4, 8, 0, 3, -1, math.MinInt} {
		if x := r.Num(width); x != 0 {
			t.Errorf("Num(%d) behind an error: %d", width, x)
		}
	}
	if x := r.Int(); x != 0 {
		t.Errorf("Int behind an error: %d", x)
	}
	for _, n := range []int{0, 1, 9, -1, math.MinInt, math.MaxInt} {
		if b := r.Raw(n); len(b) != 0 {
			t.Errorf("Raw(%d) behind an error: %v", n, b)
		}
		if s := r.Text(n); s != "" {
			t.Errorf("Text(%d) behind an error: %q", n, s)
		}
		if l := Get(r, n, never[int](t)); len(l) != 0 {
			t.Errorf("Get of %d behind an error: %v", n, l)
		}
	}
	checkReader(t, r, 0, e)
}

// never reads an item that nobody may ask for.
func never[T any](t *testing.T) func(*Reader) T {
	return func(r *Reader) (x T) {
		t.Helper()
		t.Error("an item is asked for")
		return x
	}
}

// ofWidth reads, and putWidth writes, an item of a row that is a number.
func ofWidth(width int) func(*Reader) uint64 {
	return func(r *Reader) uint64 { return r.Num(width) }
}

func putWidth(width int) func(*Writer, uint64) {
	return func(w *Writer, x uint64) { w.Num(x, width) }
}

// P3.1
func TestExample(t *testing.T) {
	w := &Writer{}
	checkErr(t, "Num(258, 2)", w.Num(258, 2), api.OK)
	checkBytes(t, w, []byte{1, 2})
	w.Int(-1)
	checkBytes(t, w, []byte{1, 2, 255, 255, 255, 255, 255, 255, 255, 255})
}

// P3.1
func TestPutNum(t *testing.T) {
	var w Writer
	checkBytes(t, &w, nil)
	var want []byte
	for _, x := range []struct {
		x     uint64
		width int
		b     []byte
	}{
		{0, 1, []byte{0}}, {7, 1, []byte{7}}, {255, 1, []byte{255}},
		{0, 2, []byte{0, 0}}, {255, 2, []byte{0, 255}}, {256, 2, []byte{1, 0}}, {65535, 2, []byte{255, 255}},
		{1, 4, []byte{0, 0, 0, 1}}, {0x01020304, 4, []byte{1, 2, 3, 4}}, {1<<32 - 1, 4, []byte{255, 255, 255, 255}},
		{5, 8, []byte{0, 0, 0, 0, 0, 0, 0, 5}}, {0x0102030405060708, 8, []byte{1, 2, 3, 4, 5, 6, 7, 8}},
		{1 << 63, 8, []byte{128, 0, 0, 0, 0, 0, 0, 0}}, {greatest, 8, []byte{255, 255, 255, 255, 255, 255, 255, 255}},
	} {
		checkErr(t, fmt.Sprintf("Num(%d, %d)", x.x, x.width), w.Num(x.x, x.width), api.OK)
		want = append(want, x.b...)
		checkBytes(t, &w, want)
	}
}

// P3.1: a number goes in if it has no more bits than the width, and nothing is written of one that is wider.
func TestPutNumWidths(t *testing.T) {
	for bits := range 65 {
		most := new(big.Int).Sub(new(big.Int).Lsh(big.NewInt(1), uint(bits)), big.NewInt(1)).Uint64()
		for _, x := range []uint64{most, most/2 + 1} { // the greatest one and the least one of so many bits
			for _, width := range []int{1, 2, 4, 8} {
				var w Writer
				what := fmt.Sprintf("Num(%d, %d)", x, width)
				if new(big.Int).SetUint64(x).BitLen() > 8*width {
					checkErr(t, what, w.Num(x, width), api.ErrRange)
					checkBytes(t, &w, nil)
				} else {
					checkErr(t, what, w.Num(x, width), api.OK)
					checkBytes(t, &w, number(x, width))
				}
			}
		}
	}
}

// P3.1: with an error nothing is written; ErrArg is ahead of ErrRange.
func TestPutNumErrors(t *testing.T) {
	w := &Writer{}
	w.Num(9, 1)
	for _, width := range noWidths() {
		for _, x := range []uint64{0, 1, 255, greatest} {
			checkErr(t, fmt.Sprintf("Num(%d, %d)", x, width), w.Num(x, width), api.ErrArg)
		}
	}
	checkErr(t, "Num(256, 1)", w.Num(256, 1), api.ErrRange)
	checkErr(t, "Num(65536, 2)", w.Num(65536, 2), api.ErrRange)
	checkErr(t, "Num(1<<32, 4)", w.Num(1<<32, 4), api.ErrRange)
	checkErr(t, "Num(1<<63, 4)", w.Num(1<<63, 4), api.ErrRange)
	checkErr(t, "Num of the greatest, 1", w.Num(greatest, 1), api.ErrRange)
	checkBytes(t, w, []byte{9})
	checkErr(t, "Num(8, 1) behind errors", w.Num(8, 1), api.OK)
	checkBytes(t, w, []byte{9, 8})
}

// signedOnes are signed numbers at their ends and around the powers of 2.
func signedOnes() []int64 {
	l := []int64{0, math.MinInt64, math.MaxInt64}
	for i := range 63 {
		p := int64(1) << i
		l = append(l, p, -p, p-1, 1-p, p+1, -p-1)
	}
	return l
}

// P3.1: a signed number is that of 8 bytes that is it modulo 2^64.
func TestPutInt(t *testing.T) {
	modulus := new(big.Int).Lsh(big.NewInt(1), 64)
	for _, x := range signedOnes() {
		w := &Writer{}
		w.Int(x)
		want := new(big.Int).Mod(big.NewInt(x), modulus).FillBytes(make([]byte, 8))
		checkBytes(t, w, want)
	}
}

// P3.1
func TestPutText(t *testing.T) {
	w := &Writer{}
	var want []byte
	for _, s := range []string{"", "a", "hi", "\x00", "\xff\xfe", "é世界", strings.Repeat("x", 255), strings.Repeat("y", 256), ""} {
		checkErr(t, fmt.Sprintf("Text of %d bytes", len(s)), w.Text(s), api.OK)
		want = append(want, text(s)...)
		checkBytes(t, w, want)
	}
	w = &Writer{}
	w.Text("hi")
	checkBytes(t, w, []byte{0, 2, 'h', 'i'})
	w.Text("é") // its bytes count, not its runes
	checkBytes(t, w, []byte{0, 2, 'h', 'i', 0, 2, 0xC3, 0xA9})
}

// P3.1: of a text that is too long nothing is written.
func TestPutTextLong(t *testing.T) {
	w := &Writer{}
	w.Num(1, 1)
	most := strings.Repeat("z", bound)
	for _, s := range []string{most + "z", most + "zz", strings.Repeat("z", 1<<17)} {
		checkErr(t, fmt.Sprintf("Text of %d bytes", len(s)), w.Text(s), api.ErrLong)
		checkBytes(t, w, []byte{1})
	}
	checkErr(t, "Text of 65535 bytes", w.Text(most), api.OK)
	checkBytes(t, w, slices.Concat([]byte{1, 255, 255}, []byte(most)))
}

// P3.1: raw bytes are written as they are, as many as there are.
func TestPutRaw(t *testing.T) {
	w := &Writer{}
	w.Raw(nil)
	w.Raw([]byte{})
	checkBytes(t, w, nil)
	w.Raw([]byte{0, 255, 3})
	w.Raw([]byte{4})
	checkBytes(t, w, []byte{0, 255, 3, 4})
	many := bytes.Repeat([]byte{7}, bound+1)
	w.Raw(many)
	checkBytes(t, w, slices.Concat([]byte{0, 255, 3, 4}, many))
}

// P3.1
func TestPutRow(t *testing.T) {
	w := &Writer{}
	checkErr(t, "Put of numbers", Put(w, []uint64{5, 256, 65535}, putWidth(2)), api.OK)
	checkBytes(t, w, []byte{0, 3, 0, 5, 1, 0, 255, 255})
	checkErr(t, "Put of texts", Put(w, []string{"", "ab"}, func(w *Writer, s string) { w.Text(s) }), api.OK)
	want := []byte{0, 3, 0, 5, 1, 0, 255, 255, 0, 2, 0, 0, 0, 2, 'a', 'b'}
	checkBytes(t, w, want)
	checkErr(t, "Put of nil", Put(w, nil, putWidth(2)), api.OK)
	checkErr(t, "Put of nothing", Put(w, []uint64{}, putWidth(2)), api.OK)
	want = append(want, 0, 0, 0, 0)
	checkBytes(t, w, want)
	rows := [][]uint64{{1}, nil, {2, 3}}
	checkErr(t, "Put of rows", Put(w, rows, func(w *Writer, l []uint64) { Put(w, l, putWidth(1)) }), api.OK)
	checkBytes(t, w, append(want, 0, 3, 0, 1, 1, 0, 0, 0, 2, 2, 3))
}

// P3.1: of a row that is too long nothing is written, and no item of it is asked for.
func TestPutRowLong(t *testing.T) {
	w := &Writer{}
	w.Num(1, 1)
	items := 0
	each := func(w *Writer, x uint64) {
		items++
		w.Num(x, 1)
	}
	for _, n := range []int{bound + 1, bound + 2, 1 << 17} {
		checkErr(t, fmt.Sprintf("Put of %d", n), Put(w, make([]uint64, n), each), api.ErrLong)
		checkErr(t, fmt.Sprintf("Put of %d nothings", n), Put(w, make([]struct{}, n), func(w *Writer, _ struct{}) { items++ }), api.ErrLong)
		checkBytes(t, w, []byte{1})
	}
	if items != 0 {
		t.Errorf("%d items of rows that are too long", items)
	}
	checkErr(t, "Put of 65535", Put(w, make([]uint64, bound), each), api.OK)
	checkBytes(t, w, slices.Concat([]byte{1, 255, 255}, make([]byte, bound)))
	if items != bound {
		t.Errorf("%d items, want %d", items, bound)
	}
}

// P3.1: the items are written one by one, in their order, to the writer that was handed in.
func TestPutRowItems(t *testing.T) {
	w := &Writer{}
	var got []int
	Put(w, []int{3, 1, 2}, func(to *Writer, x int) {
		if to != w {
			t.Error("another writer")
		}
		got = append(got, x)
	})
	if !slices.Equal(got, []int{3, 1, 2}) {
		t.Errorf("items %v", got)
	}
	checkBytes(t, w, []byte{0, 3})
}

// P3.1
func TestNilWriter(t *testing.T) {
	var w *Writer
	for _, width := range []int{1, 2, 4, 8, 0, 3, -1} {
		for _, x := range []uint64{0, 1, greatest} {
			checkErr(t, "Num of nil", w.Num(x, width), api.ErrArg)
		}
	}
	for _, s := range []string{"", "a", strings.Repeat("a", bound), strings.Repeat("a", bound+1)} {
		checkErr(t, "Text of nil", w.Text(s), api.ErrArg)
	}
	for _, n := range []int{0, 1, bound, bound + 1} {
		each := func(*Writer, uint64) { t.Error("an item is written") }
		checkErr(t, "Put of nil", Put(w, make([]uint64, n), each), api.ErrArg)
	}
	w.Int(1)
	w.Raw([]byte{1})
	w.Raw(nil)
	checkBytes(t, w, nil)
}

// P3.2
func TestGetNum(t *testing.T) {
	r := Read([]byte{7, 1, 2, 255, 1, 2, 3, 4, 128, 0, 0, 0, 0, 0, 0, 9, 255})
	left := 17
	for _, x := range []struct {
		width int
		want  uint64
	}{{1, 7}, {2, 258}, {1, 255}, {4, 0x01020304}, {8, 1<<63 + 9}, {1, 255}} {
		if got := r.Num(x.width); got != x.want {
			t.Errorf("Num(%d): %d, want %d", x.width, got, x.want)
		}
		left -= x.width
		checkReader(t, r, left, api.OK)
	}
}

// P3.2: bytes that end ahead of a number, or amid it.
func TestGetNumShort(t *testing.T) {
	for _, width := range []int{1, 2, 4, 8} {
		for n := range 10 {
			for ahead := range 3 {
				b := bytes.Repeat([]byte{0xA5}, ahead+n)
				r := Read(b)
				r.Raw(ahead)
				got := r.Num(width)
				if n < width {
					if got != 0 {
						t.Errorf("Num(%d) of %d bytes: %d", width, n, got)
					}
					checkFailed(t, r, api.ErrShort)
				} else {
					want := new(big.Int).SetBytes(b[:width]).Uint64()
					if got != want {
						t.Errorf("Num(%d) of %d bytes: %d, want %d", width, n, got, want)
					}
					checkReader(t, r, n-width, api.OK)
				}
			}
		}
	}
}

// P3.2: no such width; ErrArg is ahead of ErrShort.
func TestGetNumArg(t *testing.T) {
	for _, width := range noWidths() {
		for _, n := range []int{0, 1, 7, 40} {
			r := Read(bytes.Repeat([]byte{1}, n))
			if x := r.Num(width); x != 0 {
				t.Errorf("Num(%d): %d", width, x)
			}
			checkFailed(t, r, api.ErrArg)
		}
	}
}

// P3.2
func TestGetInt(t *testing.T) {
	for _, x := range signedOnes() {
		r := Read(append(signed(x), 5))
		if got := r.Int(); got != x {
			t.Errorf("Int: %d, want %d", got, x)
		}
		checkReader(t, r, 1, api.OK)
	}
	for n := range 8 {
		r := Read(signed(-1)[:n])
		if got := r.Int(); got != 0 {
			t.Errorf("Int of %d bytes: %d", n, got)
		}
		checkFailed(t, r, api.ErrShort)
	}
}

// P3.2
func TestGetText(t *testing.T) {
	r := Read([]byte{0, 2, 'h', 'i', 0, 0, 0, 3, 0, 255, 0xC3, 9})
	for _, x := range []struct {
		most int
		want string
		left int
	}{{2, "hi", 8}, {0, "", 6}, {math.MaxInt, "\x00\xff\xc3", 1}} {
		if got := r.Text(x.most); got != x.want {
			t.Errorf("Text(%d): %q, want %q", x.most, got, x.want)
		}
		checkReader(t, r, x.left, api.OK)
	}
}

// P3.2: texts of all lengths that matter, and most around them.
func TestGetTextMost(t *testing.T) {
	for _, n := range []int{0, 1, 2, 255, 256, 65534, bound} {
		s := strings.Repeat("q", n)
		b := append(text(s), 7)
		for _, most := range []int{n, n + 1, n + 2, 1 << 16, math.MaxInt} {
			r := Read(b)
			if got := r.Text(most); got != s {
				t.Errorf("Text(%d) of %d bytes: %d bytes", most, n, len(got))
			}
			checkReader(t, r, 1, api.OK)
		}
		for _, most := range []int{n - 1, n - 2, 0, -1, math.MinInt} {
			r := Read(b)
			got := r.Text(most)
			if n == 0 { // most below 0 is 0, and the text of none isn't longer
				checkReader(t, r, 1, api.OK)
				continue
			}
			if got != "" {
				t.Errorf("Text(%d) of %d bytes: %d bytes", most, n, len(got))
			}
			checkFailed(t, r, api.ErrLong)
		}
	}
}

// P3.2: bytes that end amid a text, its length or its bytes; ErrLong is asked ahead of its bytes, behind its length.
func TestGetTextShort(t *testing.T) {
	b := text("abcde")
	for n := range len(b) {
		for _, most := range []int{-1, 0, 4, 5, 6, bound, math.MaxInt} {
			r := Read(b[:n])
			if got := r.Text(most); got != "" {
				t.Errorf("Text(%d) of %v: %q", most, b[:n], got)
			}
			if n >= 2 && most < 5 {
				checkFailed(t, r, api.ErrLong)
			} else {
				checkFailed(t, r, api.ErrShort)
			}
		}
	}
	for _, b := range [][]byte{{255, 255}, {255, 255, 1}, {0, 1}, {1, 0, 1}} {
		r := Read(b)
		r.Text(bound)
		checkFailed(t, r, api.ErrShort)
	}
}

// P3.2
func TestGetRaw(t *testing.T) {
	r := Read([]byte{1, 2, 3, 4, 5})
	left := 5
	for _, want := range [][]byte{{1}, {}, {2, 3}, {}, {4, 5}, {}} {
		if got := r.Raw(len(want)); !bytes.Equal(got, want) {
			t.Errorf("Raw(%d): %v, want %v", len(want), got, want)
		}
		left -= len(want)
		checkReader(t, r, left, api.OK)
	}
	for _, have := range []int{0, 1, 5, bound + 1} {
		for _, more := range []int{1, 2, 1 << 20} {
			r = Read(make([]byte, have))
			if got := r.Raw(have + more); len(got) != 0 {
				t.Errorf("Raw of more than there are: %v", got)
			}
			checkFailed(t, r, api.ErrShort)
		}
		r = Read(make([]byte, have))
		r.Raw(math.MaxInt)
		checkFailed(t, r, api.ErrShort)
		r = Read(make([]byte, have))
		if got := r.Raw(have); len(got) != have {
			t.Errorf("Raw(%d): %d bytes", have, len(got))
		}
		checkReader(t, r, 0, api.OK)
		for _, n := range []int{-1, -2, -have - 1, math.MinInt} {
			r = Read(make([]byte, have))
			if got := r.Raw(n); len(got) != 0 {
				t.Errorf("Raw(%d): %v", n, got)
			}
			checkFailed(t, r, api.ErrArg)
		}
	}
}

// P3.2
func TestGetRow(t *testing.T) {
	r := Read([]byte{0, 3, 0, 5, 1, 0, 255, 255, 0, 0, 0, 2, 0, 0, 0, 2, 'a', 'b', 9})
	if got := Get(r, 3, ofWidth(2)); !slices.Equal(got, []uint64{5, 256, 65535}) {
		t.Errorf("Get of numbers: %v", got)
	}
	checkReader(t, r, 11, api.OK)
	if got := Get(r, 0, never[string](t)); len(got) != 0 {
		t.Errorf("Get of none: %v", got)
	}
	checkReader(t, r, 9, api.OK)
	if got := Get(r, 9, func(r *Reader) string { return r.Text(2) }); !slices.Equal(got, []string{"", "ab"}) {
		t.Errorf("Get of texts: %q", got)
	}
	checkReader(t, r, 1, api.OK)
}

// P3.2: rows of all lengths that matter, and most around them.
func TestGetRowMost(t *testing.T) {
	for _, n := range []int{0, 1, 2, 255, 256, 65534, bound} {
		b := slices.Concat(number(uint64(n), 2), bytes.Repeat([]byte{6}, n), []byte{7})
		for _, most := range []int{n, n + 1, n + 2, 1 << 16, math.MaxInt} {
			r := Read(b)
			if got := Get(r, most, ofWidth(1)); !slices.Equal(got, slices.Repeat([]uint64{6}, n)) {
				t.Errorf("Get of at most %d of %d: %d", most, n, len(got))
			}
			checkReader(t, r, 1, api.OK)
		}
		for _, most := range []int{n - 1, n - 2, 0, -1, math.MinInt} {
			r := Read(b)
			if got := Get(r, most, never[uint64](t)); len(got) != 0 {
				t.Errorf("Get of at most %d of %d: %d", most, n, len(got))
			}
			if n == 0 {
				checkReader(t, r, 1, api.OK)
			} else {
				checkFailed(t, r, api.ErrLong)
			}
		}
	}
}

// P3.2: bytes that end amid a row: what was read of it is nothing, and behind the error no item is asked for.
func TestGetRowShort(t *testing.T) {
	b := []byte{0, 3, 1, 1, 2, 2, 3, 3}
	for n := range len(b) {
		for _, most := range []int{-1, 2, 3, bound} {
			r := Read(b[:n])
			items := 0
			got := Get(r, most, func(r *Reader) uint64 {
				items++
				return r.Num(2)
			})
			if len(got) != 0 {
				t.Errorf("Get of %v: %v", b[:n], got)
			}
			want := 0
			if n >= 2 && most >= 3 {
				want = (n-2)/2 + 1
			}
			if items != want {
				t.Errorf("Get of at most %d of %v: %d items are asked for, want %d", most, b[:n], items, want)
			}
			if n >= 2 && most < 3 {
				checkFailed(t, r, api.ErrLong)
			} else {
				checkFailed(t, r, api.ErrShort)
			}
		}
	}
}

// P3.2: an error of any kind amid a row, at its last item too, ends it.
func TestGetRowErrors(t *testing.T) {
	for at := range 4 {
		for e, fail := range map[api.Errno]func(*Reader){
			api.ErrArg:   func(r *Reader) { r.Num(3) },
			api.ErrShort: func(r *Reader) { r.Raw(1000) },
			api.ErrLong:  func(r *Reader) { r.Text(0) },
		} {
			r := Read([]byte{0, 4, 0, 1, 0, 1, 0, 1, 0, 1, 0, 1, 0, 1})
			items := 0
			got := Get(r, 4, func(r *Reader) int {
				if items++; items > at {
					fail(r)
				} else {
					r.Num(1)
				}
				return 77
			})
			if len(got) != 0 || items != at+1 {
				t.Errorf("an error at item %d: %v, %d items", at, got, items)
			}
			checkFailed(t, r, e)
		}
	}
}

// P3.2: what an item takes is its function's affair: nothing too.
func TestGetRowOfNothings(t *testing.T) {
	r := Read([]byte{255, 255})
	got := Get(r, bound, func(of *Reader) int {
		if of != r {
			t.Fatal("another reader")
		}
		return 5
	})
	if !slices.Equal(got, slices.Repeat([]int{5}, bound)) {
		t.Errorf("%d items", len(got))
	}
	checkReader(t, r, 0, api.OK)
}

// P3.2: the first error stays, whatever comes behind it.
func TestFirstError(t *testing.T) {
	b := bytes.Repeat([]byte{0, 9}, 20)
	for _, x := range []struct {
		what string
		fail func(*Reader)
		want api.Errno
	}{
		{"no width", func(r *Reader) { r.Num(5) }, api.ErrArg},
		{"below 0", func(r *Reader) { r.Raw(-1) }, api.ErrArg},
		{"too few", func(r *Reader) { r.Raw(41) }, api.ErrShort},
		{"a text too long", func(r *Reader) { r.Text(8) }, api.ErrLong},
		{"a row too long", func(r *Reader) { Get(r, 8, ofWidth(1)) }, api.ErrLong},
		{"an item's error", func(r *Reader) { Get(r, 9, ofWidth(0)) }, api.ErrArg},
		{"an item that ends", func(r *Reader) { Get(r, 9, ofWidth(8)) }, api.ErrShort},
	} {
		t.Run(x.what, func(t *testing.T) {
			r := Read(b)
			r.Num(2)
			x.fail(r)
			checkFailed(t, r, x.want)
		})
	}
}

// P3.2: that something is left is no error of the reader's own.
func TestEnd(t *testing.T) {
	r := Read([]byte{1, 2})
	checkErr(t, "End of 2 bytes", r.End(), api.ErrLong)
	checkErr(t, "End again", r.End(), api.ErrLong)
	checkReader(t, r, 2, api.OK)
	if x := r.Num(1); x != 1 {
		t.Errorf("behind End: %d", x)
	}
	checkErr(t, "End of 1 byte", r.End(), api.ErrLong)
	if x := r.Num(1); x != 2 {
		t.Errorf("behind End: %d", x)
	}
	checkReader(t, r, 0, api.OK)
	r.Num(1)
	checkFailed(t, r, api.ErrShort)
	r = Read([]byte{1, 2})
	r.Num(0)
	checkErr(t, "End of bytes and an error", r.End(), api.ErrArg)
}

// P3.2: nil and empty bytes are the same.
func TestEmpty(t *testing.T) {
	for _, b := range [][]byte{nil, {}} {
		for _, ask := range []func(*Reader){
			func(r *Reader) { r.Num(1) },
			func(r *Reader) { r.Int() },
			func(r *Reader) { r.Text(9) },
			func(r *Reader) { r.Text(-1) },
			func(r *Reader) { r.Raw(1) },
			func(r *Reader) { Get(r, 9, never[int](t)) },
		} {
			r := Read(b)
			checkReader(t, r, 0, api.OK)
			if l := r.Raw(0); len(l) != 0 {
				t.Errorf("Raw(0): %v", l)
			}
			checkReader(t, r, 0, api.OK)
			ask(r)
			checkFailed(t, r, api.ErrShort)
		}
	}
}

// P3.2
func TestNilReader(t *testing.T) { checkFailed(t, nil, api.ErrArg) }

// item is one thing that is written, and its bytes.
type item struct {
	b    []byte
	put  func(*Writer) api.Errno
	same func(*Reader) bool // is it what is read?
}

func anyNum(rnd *rand.Rand) item {
	width := 1 << rnd.Intn(4)
	x := rnd.Uint64() >> (64 - 8*width) >> rnd.Intn(8*width)
	return item{number(x, width), func(w *Writer) api.Errno { return w.Num(x, width) }, func(r *Reader) bool { return r.Num(width) == x }}
}

func anyInt(rnd *rand.Rand) item {
	x := int64(rnd.Uint64()) >> rnd.Intn(64)
	put := func(w *Writer) api.Errno {
		w.Int(x)
		return api.OK
	}
	return item{signed(x), put, func(r *Reader) bool { return r.Int() == x }}
}

func anyBytes(rnd *rand.Rand) []byte {
	b := make([]byte, rnd.Intn(12))
	rnd.Read(b)
	return b
}

func anyText(rnd *rand.Rand) item {
	s := string(anyBytes(rnd))
	most := len(s) + rnd.Intn(2)
	return item{text(s), func(w *Writer) api.Errno { return w.Text(s) }, func(r *Reader) bool { return r.Text(most) == s }}
}

func anyRaw(rnd *rand.Rand) item {
	b := anyBytes(rnd)
	put := func(w *Writer) api.Errno {
		w.Raw(b)
		return api.OK
	}
	return item{b, put, func(r *Reader) bool { return bytes.Equal(r.Raw(len(b)), b) }}
}

// anyRow is a row of things of all kinds, rows too.
func anyRow(rnd *rand.Rand) item {
	l := make([]item, rnd.Intn(4))
	b := number(uint64(len(l)), 2)
	for i := range l {
		l[i] = anyItem(rnd)
		b = append(b, l[i].b...)
	}
	put := func(w *Writer) api.Errno {
		return Put(w, l, func(w *Writer, x item) { x.put(w) })
	}
	same := func(r *Reader) bool {
		i := 0
		got := Get(r, len(l), func(r *Reader) bool {
			i++
			return l[i-1].same(r)
		})
		return len(got) == len(l) && !slices.Contains(got, false)
	}
	return item{b, put, same}
}

func anyItem(rnd *rand.Rand) item {
	kinds := []func(*rand.Rand) item{anyNum, anyInt, anyText, anyRaw, anyRow}
	return kinds[rnd.Intn(len(kinds))](rnd)
}

// P3.3: what is written is read, and it lies in the bytes as the chapter tells.
func TestWrittenIsRead(t *testing.T) {
	rnd := rand.New(rand.NewSource(3))
	for range 500 {
		w := &Writer{}
		var want []byte
		l := make([]item, rnd.Intn(30))
		for i := range l {
			l[i] = anyItem(rnd)
			checkErr(t, "written", l[i].put(w), api.OK)
			want = append(want, l[i].b...)
		}
		checkBytes(t, w, want)
		r := Read(want)
		left := len(want)
		for i, x := range l {
			if !x.same(r) {
				t.Fatalf("item %d of %v isn't read", i, want)
			}
			left -= len(x.b)
			checkReader(t, r, left, api.OK)
		}
	}
}

// P3.3: any bytes are read by any questions: each call ends, and what is left never grows.
func TestAnyBytes(t *testing.T) {
	rnd := rand.New(rand.NewSource(33))
	for range 3000 {
		b := make([]byte, rnd.Intn(60))
		for i := range b {
			b[i] = byte(rnd.Intn(256) >> rnd.Intn(9))
		}
		r := Read(b)
		for left := len(b); r.Err() == api.OK; left = r.Left() {
			anyItem(rnd).same(r)
			if r.Left() > left {
				t.Fatalf("%d left, and %d before", r.Left(), left)
			}
			if rnd.Intn(20) == 0 {
				r.Num(3)
			}
		}
		checkFailed(t, r, r.Err())
	}
}

// P3.3: what is handed in to a writer isn't changed, its spare room neither, and isn't kept.
func TestHandedToWriter(t *testing.T) {
	room := []byte{1, 2, 3, 4, 5, 6}
	old := bytes.Clone(room)
	w := &Writer{}
	w.Raw(room[:3])
	w.Num(9, 1)
	w.Text("k")
	if !bytes.Equal(room, old) {
		t.Errorf("changed to %v", room)
	}
	clear(room)
	checkBytes(t, w, []byte{1, 2, 3, 9, 0, 1, 'k'})
	row := []uint64{5, 6, 7, 8}
	Put(w, row[:2], putWidth(1))
	if !slices.Equal(row, []uint64{5, 6, 7, 8}) {
		t.Errorf("a row changed to %v", row)
	}
	clear(row)
	checkBytes(t, w, []byte{1, 2, 3, 9, 0, 1, 'k', 0, 2, 5, 6})
}

// P3.3: the same of a reader.
func TestHandedToReader(t *testing.T) {
	room := []byte{0, 1, 'k', 7, 8, 9, 1, 2, 3}
	old := bytes.Clone(room)
	r := Read(room[:6])
	s := r.Text(1)
	got := r.Raw(1)
	got[0] = 99
	_ = append(got, 88, 88)
	if !bytes.Equal(room, old) {
		t.Errorf("changed to %v", room)
	}
	clear(room)
	if s != "k" || r.Num(1) != 8 || r.Num(1) != 9 {
		t.Error("what was handed in is kept")
	}
	checkReader(t, r, 0, api.OK)
	if !bytes.Equal(room, make([]byte, 9)) {
		t.Errorf("changed to %v", room)
	}
}

// P3.3: two readers of the same bytes are apart, and an error of one is none of the other.
func TestReadersApart(t *testing.T) {
	b := []byte{1, 2, 3}
	one, two := Read(b), Read(b)
	one.Num(2)
	one.Num(2)
	checkFailed(t, one, api.ErrShort)
	checkReader(t, two, 3, api.OK)
	if x := two.Num(2); x != 258 {
		t.Errorf("Num: %d", x)
	}
}

// P3.3: what a writer answers is new memory.
func TestBytesAreNew(t *testing.T) {
	w := &Writer{}
	w.Raw([]byte{1, 2, 3})
	first, second := w.Bytes(), w.Bytes()
	clear(first)
	_ = append(first[:1], 9, 9, 9, 9)
	if !bytes.Equal(second, []byte{1, 2, 3}) {
		t.Errorf("an answer shares with another one: %v", second)
	}
	checkBytes(t, w, []byte{1, 2, 3})
	_ = append(second, 8, 8) // into its spare room, if it has some
	w.Num(4, 1)
	checkBytes(t, w, []byte{1, 2, 3, 4})
	if !bytes.Equal(second, []byte{1, 2, 3}) {
		t.Errorf("an answer shares with the writer: %v", second)
	}
}

// P3.3: what a reader answers is new memory, that nothing to come is read from.
func TestRawIsNew(t *testing.T) {
	r := Read([]byte{1, 2, 3, 4, 5, 6})
	first, second := r.Raw(2), r.Raw(2)
	_ = append(first, 9, 9, 9, 9)
	_ = append(second, 9, 9)
	clear(first)
	if !bytes.Equal(second, []byte{3, 4}) {
		t.Errorf("an answer shares with another one: %v", second)
	}
	if got := r.Raw(2); !bytes.Equal(got, []byte{5, 6}) {
		t.Errorf("an answer shares with the reader: %v", got)
	}
}

// P3.3: rows that are read are apart.
func TestRowsAreNew(t *testing.T) {
	r := Read([]byte{0, 2, 1, 2, 0, 2, 3, 4})
	first := Get(r, 2, ofWidth(1))
	_ = append(first, 9, 9)
	second := Get(r, 2, ofWidth(1))
	clear(first)
	if !slices.Equal(second, []uint64{3, 4}) {
		t.Errorf("a row shares with another one: %v", second)
	}
}
