package bits

import (
	"bytes"
	"fmt"
	"math"
	"math/big"
	"math/rand"
	"strings"
	"testing"

	"catacomb/api"
)

const greatest = math.MaxUint64

// signs tells bytes as the bits 0 and 1.
func signs(b []byte) string {
	var s strings.Builder
	for _, x := range b {
		fmt.Fprintf(&s, "%08b", x)
	}
	return s.String()
}

// row is the bytes of bits, blanks between them left out, filled with 0.
func row(s string) []byte {
	s = strings.ReplaceAll(s, " ", "")
	var b []byte
	for i, sign := range s {
		if i%8 == 0 {
			b = append(b, 0)
		}
		if sign == '1' {
			b[i/8] |= 128 >> (i % 8)
		}
	}
	return b
}

// number is a number's so many bits.
func number(x uint64, width int) string {
	if width == 0 {
		return ""
	}
	return fmt.Sprintf("%0*s", width, new(big.Int).SetUint64(x).Text(2))
}

// unary is so many bits 1, and one 0.
func unary(n int) string { return strings.Repeat("1", n) + "0" }

// checkWriter holds what a writer tells against bits.
func checkWriter(t *testing.T, w *Writer, want string) {
	t.Helper()
	want = strings.ReplaceAll(want, " ", "")
	if w.Len() != len(want) {
		t.Errorf("Len: %d, want %d", w.Len(), len(want))
	}
	if got := w.Bytes(); !bytes.Equal(got, row(want)) {
		t.Errorf("Bytes: %s, want %s, filled with 0", signs(got), want)
	}
}

func checkErr(t *testing.T, what string, got, want api.Errno) {
	t.Helper()
	if got != want {
		t.Errorf("%s: error %d, want %d", what, got, want)
	}
}

// checkGet asks for a number, and for how many bits are left behind it.
func checkGet(t *testing.T, r *Reader, width int, x uint64, e api.Errno, left int) {
	t.Helper()
	if got, err := r.Get(width); got != x || err != e || r.Left() != left {
		t.Errorf("Get(%d): %d, error %d, %d left; want %d, %d, %d", width, got, err, r.Left(), x, e, left)
	}
}

// checkUnary asks how many bits 1 there are, and for how many bits are left behind them.
func checkUnary(t *testing.T, r *Reader, most, n int, e api.Errno, left int) {
	t.Helper()
	if got, err := r.Unary(most); got != n || err != e || r.Left() != left {
		t.Errorf("Unary(%d): %d, error %d, %d left; want %d, %d, %d", most, got, err, r.Left(), n, e, left)
	}
}

// P2.1
func TestPut(t *testing.T) {
	var w Writer
	checkWriter(t, &w, "")
	want := ""
	for _, x := range []struct {
		x     uint64
		width int
		bits  string
	}{
		{5, 3, "101"}, {1, 2, "01"}, // the chapter's example
		{0, 0, ""}, {0, 3, "000"}, {1, 1, "1"}, {0, 1, "0"},
		{300, 9, "100101100"}, {300, 12, "000100101100"},
		{1, 64, strings.Repeat("0", 63) + "1"},
		{1 << 63, 64, "1" + strings.Repeat("0", 63)},
		{greatest, 64, strings.Repeat("1", 64)},
		{greatest >> 1, 63, strings.Repeat("1", 63)},
		{0, 64, strings.Repeat("0", 64)},
		{0, 0, ""}, {6, 3, "110"},
	} {
		checkErr(t, fmt.Sprintf("Put(%d, %d)", x.x, x.width), w.Put(x.x, x.width), api.OK)
		want += x.bits
		checkWriter(t, &w, want)
	}
}

// P2.1
func TestPutExample(t *testing.T) {
	w := &Writer{}
	w.Put(5, 3)
	w.Put(1, 2)
	if got := w.Bytes(); w.Len() != 5 || signs(got) != "10101000" {
		t.Errorf("%d bits, %s, want 5, 10101000", w.Len(), signs(got))
	}
}

// P2.1: a number goes in with its own width and more, and not with one less.
func TestPutWidths(t *testing.T) {
	for own := 1; own <= 64; own++ {
		least := uint64(1) << (own - 1)
		for _, x := range []uint64{least, least<<1 - 1} {
			for width := range 65 {
				var w Writer
				if width < own {
					checkErr(t, fmt.Sprintf("Put(%d, %d)", x, width), w.Put(x, width), api.ErrRange)
					checkWriter(t, &w, "")
				} else {
					checkErr(t, fmt.Sprintf("Put(%d, %d)", x, width), w.Put(x, width), api.OK)
					checkWriter(t, &w, number(x, width))
				}
			}
		}
	}
}

// P2.1: with an error nothing is written.
func TestPutErrors(t *testing.T) {
	var w Writer
	w.Put(5, 3)
	for _, x := range []struct {
		x     uint64
		width int
		want  api.Errno
	}{
		{0, -1, api.ErrArg}, {0, 65, api.ErrArg}, {0, math.MinInt, api.ErrArg}, {0, math.MaxInt, api.ErrArg},
		{1, -1, api.ErrArg}, {greatest, -1, api.ErrArg}, {greatest, -64, api.ErrArg}, {greatest, 65, api.ErrArg}, // ErrArg is first
		{1, 0, api.ErrRange}, {greatest, 0, api.ErrRange}, {2, 1, api.ErrRange}, {8, 3, api.ErrRange},
		{1 << 63, 63, api.ErrRange}, {greatest, 63, api.ErrRange},
	} {
		checkErr(t, fmt.Sprintf("Put(%d, %d)", x.x, x.width), w.Put(x.x, x.width), x.want)
		checkWriter(t, &w, "101")
	}
	checkErr(t, "Put(7, 3) behind errors", w.Put(7, 3), api.OK)
	checkWriter(t, &w, "101 111")
}

// P2.1
func TestWriterUnary(t *testing.T) {
	var w Writer
	want := ""
	for _, n := range []int{0, 1, 2, 0, 6, 7, 8, 9, 16, 100, 4095, 4096, 0} {
		checkErr(t, fmt.Sprintf("Unary(%d)", n), w.Unary(n), api.OK)
		want += unary(n)
		checkWriter(t, &w, want)
	}
	for _, n := range []int{-1, -4096, 4097, math.MinInt, math.MaxInt} {
		checkErr(t, fmt.Sprintf("Unary(%d)", n), w.Unary(n), api.ErrArg)
		checkWriter(t, &w, want)
	}
	checkErr(t, "Unary(3) behind errors", w.Unary(3), api.OK)
	checkWriter(t, &w, want+"1110")
}

// P2.2
func TestGet(t *testing.T) {
	r := Read(row("101 01 000" + "10110011"))
	if r.Left() != 16 {
		t.Errorf("Left: %d, want 16", r.Left())
	}
	checkGet(t, r, 3, 5, api.OK, 13)
	checkGet(t, r, 2, 1, api.OK, 11)
	checkGet(t, r, 0, 0, api.OK, 11)
	checkGet(t, r, 5, 2, api.OK, 6) // over the bytes' bound
	checkGet(t, r, 1, 1, api.OK, 5)
	checkGet(t, r, 5, 19, api.OK, 0)
	checkGet(t, r, 0, 0, api.OK, 0)
	checkGet(t, r, 1, 0, api.ErrShort, 0)
}

// P2.2: of each width, behind each number of bits.
func TestGetWidths(t *testing.T) {
	all := strings.Repeat("1", 80)
	for ahead := range 10 {
		for width := range 65 {
			r := Read(row(all))
			r.Get(ahead)
			want := new(big.Int).Sub(new(big.Int).Lsh(big.NewInt(1), uint(width)), big.NewInt(1))
			checkGet(t, r, width, want.Uint64(), api.OK, 80-ahead-width)
		}
	}
}

// P2.2: with an error nothing is read.
func TestGetErrors(t *testing.T) {
	r := Read(row("10110111"))
	for _, width := range []int{-1, 65, math.MinInt, math.MaxInt} { // ErrArg is ahead of ErrShort
		checkGet(t, r, width, 0, api.ErrArg, 8)
	}
	checkGet(t, r, 9, 0, api.ErrShort, 8)
	checkGet(t, r, 64, 0, api.ErrShort, 8)
	checkGet(t, r, 3, 5, api.OK, 5)
	checkGet(t, r, 6, 0, api.ErrShort, 5) // the row ends amid it
	checkGet(t, r, 64, 0, api.ErrShort, 5)
	checkGet(t, r, 66, 0, api.ErrArg, 5)
	checkGet(t, r, 5, 23, api.OK, 0)
	checkGet(t, r, 1, 0, api.ErrShort, 0)
	checkGet(t, r, -1, 0, api.ErrArg, 0)
	checkGet(t, r, 0, 0, api.OK, 0)
}

// P2.2
func TestReaderUnary(t *testing.T) {
	r := Read(row("0 10 1110 0 " + strings.Repeat("1", 9) + "0 11111"))
	checkUnary(t, r, 0, 0, api.OK, 23)
	checkUnary(t, r, 1, 1, api.OK, 21)
	checkUnary(t, r, 2, 0, api.ErrLong, 21)
	checkUnary(t, r, 0, 0, api.ErrLong, 21)
	checkUnary(t, r, 3, 3, api.OK, 17)
	checkUnary(t, r, 100, 0, api.OK, 16)
	checkUnary(t, r, 8, 0, api.ErrLong, 16)
	checkUnary(t, r, math.MaxInt, 9, api.OK, 6)
	checkUnary(t, r, 5, 5, api.OK, 0) // the 0 that fills the byte is one like others
	checkUnary(t, r, 5, 0, api.ErrShort, 0)
}

// P2.2: below 0 most counts as 0.
func TestReaderUnaryBelow(t *testing.T) {
	for _, most := range []int{0, -1, -2, math.MinInt} {
		r := Read(row("0 10 00000"))
		checkUnary(t, r, most, 0, api.OK, 7)
		checkUnary(t, r, most, 0, api.ErrLong, 7)
		checkUnary(t, Read(nil), most, 0, api.ErrShort, 0)
	}
}

// P2.2: more bits 1 than most before the bits end is ErrLong, just as many is ErrShort; nothing is read.
func TestReaderUnaryEnds(t *testing.T) {
	for _, bits := range []int{8, 16, 4096, 8192} {
		r := Read(row(strings.Repeat("1", bits)))
		for _, most := range []int{-1, 0, 1, bits / 2, bits - 1} {
			checkUnary(t, r, most, 0, api.ErrLong, bits)
		}
		for _, most := range []int{bits, bits + 1, math.MaxInt} {
			checkUnary(t, r, most, 0, api.ErrShort, bits)
		}
		checkGet(t, r, 3, 7, api.OK, bits-3)
		checkUnary(t, r, bits-4, 0, api.ErrLong, bits-3)
		checkUnary(t, r, bits-3, 0, api.ErrShort, bits-3)
	}
}

// P2.2: just the caller says how many bits 1 may be read.
func TestReaderUnaryMany(t *testing.T) {
	for _, n := range []int{4095, 4096, 4097, 9999} {
		b := row(unary(n))
		checkUnary(t, Read(b), n-1, 0, api.ErrLong, len(b)*8)
		checkUnary(t, Read(b), n, n, api.OK, len(b)*8-n-1)
	}
}

// P2.2
func TestRest(t *testing.T) {
	for _, x := range []struct {
		bits string
		read int
		want api.Errno
	}{
		{"", 0, api.OK},
		{"11111111", 8, api.OK},
		{"11111110", 7, api.OK}, {"11111111", 7, api.ErrForm},
		{"10000000", 1, api.OK}, {"10000001", 1, api.ErrForm}, {"11000000", 1, api.ErrForm}, {"10010000", 1, api.ErrForm},
		{"11110000", 4, api.OK}, {"11110100", 4, api.ErrForm},
		{"00000000", 0, api.ErrForm}, {"11111111", 0, api.ErrForm}, {"00000001", 0, api.ErrForm},
		{"00000000 00000000", 0, api.ErrForm}, {"10000000 00000000", 1, api.ErrForm}, {"11111111 00000000", 8, api.ErrForm},
		{"11111111 10000000", 9, api.OK}, {"11111111 10000100", 9, api.ErrForm},
	} {
		r := Read(row(x.bits))
		r.Get(x.read)
		left := r.Left()
		checkErr(t, fmt.Sprintf("Rest of %q behind %d", x.bits, x.read), r.Rest(), x.want)
		checkErr(t, fmt.Sprintf("Rest again of %q behind %d", x.bits, x.read), r.Rest(), x.want)
		if r.Left() != left {
			t.Errorf("Rest of %q read: %d left, want %d", x.bits, r.Left(), left)
		}
	}
}

// P2.2: each rest of up to 9 bits.
func TestRestAll(t *testing.T) {
	for left := range 10 {
		for x := range 1 << left {
			r := Read(row(strings.Repeat("1", 16-left) + number(uint64(x), left)))
			r.Get(16 - left)
			want := api.ErrForm
			if left < 8 && x == 0 {
				want = api.OK
			}
			checkErr(t, fmt.Sprintf("Rest of %d bits, %d", left, x), r.Rest(), want)
		}
	}
}

// P2.2
func TestLeft(t *testing.T) {
	for n := range 20 {
		if got := Read(make([]byte, n)).Left(); got != 8*n {
			t.Errorf("Left of %d bytes: %d, want %d", n, got, 8*n)
		}
	}
}

// P2.1, P2.2
func TestNil(t *testing.T) {
	var w *Writer
	for _, width := range []int{0, 1, 64, -1, 65} {
		checkErr(t, "Put of nil", w.Put(0, width), api.ErrArg)
	}
	checkErr(t, "Put of nil", w.Put(2, 1), api.ErrArg)
	for _, n := range []int{0, 4096, -1, 4097} {
		checkErr(t, "Unary of nil", w.Unary(n), api.ErrArg)
	}
	if w.Len() != 0 || len(w.Bytes()) != 0 {
		t.Errorf("a nil writer has %d bits, %v", w.Len(), w.Bytes())
	}
	var r *Reader
	for _, width := range []int{0, 1, 64, -1, 65} {
		checkGet(t, r, width, 0, api.ErrArg, 0)
		checkUnary(t, r, width, 0, api.ErrArg, 0)
	}
	checkErr(t, "Rest of nil", r.Rest(), api.ErrArg)
}

// P2.2: nil and empty bytes are the same, and so is a reader that was told nothing.
func TestEmpty(t *testing.T) {
	for _, r := range []*Reader{Read(nil), Read([]byte{}), {}} {
		if r == nil {
			t.Fatal("no reader")
		}
		checkGet(t, r, 0, 0, api.OK, 0)
		checkGet(t, r, 1, 0, api.ErrShort, 0)
		checkUnary(t, r, 0, 0, api.ErrShort, 0)
		checkErr(t, "Rest of nothing", r.Rest(), api.OK)
	}
}

// item is a number of a width, or, of the width -1, bits 1 and a 0.
type item struct {
	x     uint64
	width int
}

func anyItem(rnd *rand.Rand) item {
	switch width := rnd.Intn(65); rnd.Intn(4) {
	case 0:
		return item{uint64(rnd.Intn(40)), -1}
	case 1:
		return item{0, width}
	case 2:
		return item{uint64(1)<<width - 1, width} // of 64 the shift is 0, and the number the greatest
	default:
		return item{rnd.Uint64() & (uint64(1)<<width - 1), width}
	}
}

func (x item) put(w *Writer) api.Errno {
	if x.width < 0 {
		return w.Unary(int(x.x))
	}
	return w.Put(x.x, x.width)
}

func (x item) get(r *Reader) (uint64, api.Errno) {
	if x.width < 0 {
		n, e := r.Unary(int(x.x))
		return uint64(n), e
	}
	return r.Get(x.width)
}

func (x item) bits() string {
	if x.width < 0 {
		return unary(int(x.x))
	}
	return number(x.x, x.width)
}

// P2.3: what is put is got, and it lies in the bytes as the chapter tells.
func TestPutIsGot(t *testing.T) {
	rnd := rand.New(rand.NewSource(2))
	for range 300 {
		var w Writer
		var l []item
		want := ""
		for range rnd.Intn(40) {
			x := anyItem(rnd)
			checkErr(t, "put", x.put(&w), api.OK)
			l = append(l, x)
			want += x.bits()
		}
		checkWriter(t, &w, want)
		r := Read(w.Bytes())
		for i, x := range l {
			if got, e := x.get(r); got != x.x || e != api.OK {
				t.Fatalf("item %d of %v: %d, error %d", i, l, got, e)
			}
		}
		checkErr(t, "Rest", r.Rest(), api.OK)
		if left := (8 - w.Len()%8) % 8; r.Left() != left {
			t.Errorf("Left: %d, want %d", r.Left(), left)
		}
	}
}

// P2.3: what is handed in isn't changed, its spare room neither, and isn't kept.
func TestHandedIn(t *testing.T) {
	room := []byte{0b10100101, 0b00111100, 0b11111111, 1, 2, 3}
	old := bytes.Clone(room)
	r := Read(room[:3])
	r.Unary(9)
	checkGet(t, r, 4, 0b1001, api.OK, 18)
	r.Rest()
	if !bytes.Equal(room, old) {
		t.Errorf("changed to %v", room)
	}
	clear(room)
	checkGet(t, r, 10, 0b0100111100, api.OK, 8)
	checkGet(t, r, 8, 0xFF, api.OK, 0)
	if !bytes.Equal(room, make([]byte, 6)) {
		t.Errorf("changed to %v", room)
	}
}

// P2.3: two readers of the same bytes are apart.
func TestReadersApart(t *testing.T) {
	b := []byte{0xF0, 0x0F}
	one, two := Read(b), Read(b)
	checkGet(t, one, 6, 60, api.OK, 10)
	checkGet(t, two, 4, 15, api.OK, 12)
	checkGet(t, one, 10, 15, api.OK, 0)
	checkGet(t, two, 12, 15, api.OK, 0)
}

// P2.3: the bytes that are answered are new memory.
func TestAnswers(t *testing.T) {
	var w Writer
	w.Put(0x5A5, 11)
	first, second := w.Bytes(), w.Bytes()
	for i := range first {
		first[i] = 0xFF
	}
	_ = append(first[:1], 0xEE, 0xEE, 0xEE)
	want := number(0x5A5, 11)
	if !bytes.Equal(second, row(want)) {
		t.Errorf("an answer shares with another one: %s", signs(second))
	}
	checkWriter(t, &w, want)
	w.Put(0x1F, 5)
	w.Unary(30)
	if !bytes.Equal(second, row(want)) {
		t.Errorf("an answer shares with the writer: %s", signs(second))
	}
	full := w.Bytes()
	_ = append(full, 0xEE, 0xEE) // into its spare room, if it has some
	w.Unary(12)
	checkWriter(t, &w, want+"11111"+unary(30)+unary(12))
}
