package chunk

import (
	"bytes"
	"fmt"
	"math"
	"math/big"
	"math/rand"
	"slices"
	"strings"
	"testing"

	"catacomb/api"
)

const (
	lowest   = math.MinInt64
	highest  = math.MaxInt64
	greatest = math.MaxUint64
	end      = 1 << 40 // the last tick
	bound    = 65535   // of how many points
)

// number is a number as so many bits, by big.Int.
func number(x uint64, width int) string {
	if width == 0 {
		return ""
	}
	return fmt.Sprintf("%0*s", width, new(big.Int).SetUint64(x).Text(2))
}

// sized is a number behind its own width.
func sized(x uint64) string {
	width := new(big.Int).SetUint64(x).BitLen()
	return number(uint64(width), 7) + number(x, width)
}

// folded folds a number by big.Int: 2 a, or, below 0, -2 a - 1.
func folded(a int64) uint64 {
	x := new(big.Int).Lsh(big.NewInt(a), 1)
	if a < 0 {
		x.Neg(x).Sub(x, big.NewInt(1))
	}
	return x.Uint64()
}

// change is the change from one value to another one, modulo 2^64, as the signed number that is it.
func change(from, to int64) int64 {
	whole := new(big.Int).Lsh(big.NewInt(1), 64)
	x := new(big.Int).Sub(big.NewInt(to), big.NewInt(from))
	if !x.IsInt64() && x.Sign() > 0 {
		x.Sub(x, whole)
	} else if !x.IsInt64() {
		x.Add(x, whole)
	}
	return x.Int64()
}

// head is how many points, and the first one; further is one more of a step and a change.
func head(n uint64, at, value int64) string {
	return number(n, 16) + number(uint64(at), 41) + number(folded(value), 64)
}

func further(step uint64, change int64) string {
	return sized(step-1) + sized(folded(change))
}

// row is the bytes of bits, blanks between them left out, filled with 0.
func row(s string) []byte {
	s = strings.ReplaceAll(s, " ", "")
	b := make([]byte, (len(s)+7)/8)
	for i, sign := range s {
		if sign == '1' {
			b[i/8] |= 128 >> (i % 8)
		}
	}
	return b
}

// plain is the bits of a chunk of points, as the chapter tells them.
func plain(l []api.Point) string {
	if len(l) == 0 {
		return number(0, 16)
	}
	var s strings.Builder
	s.WriteString(head(uint64(len(l)), l[0].At, l[0].Value))
	for i := 1; i < len(l); i++ {
		s.WriteString(further(uint64(l[i].At-l[i-1].At), change(l[i-1].Value, l[i].Value)))
	}
	return s.String()
}

// points are those of ticks and values, by turns.
func points(x ...int64) []api.Point {
	var l []api.Point
	for i := 0; i < len(x); i += 2 {
		l = append(l, api.Point{At: x[i], Value: x[i+1]})
	}
	return l
}

// many is so many points from a tick on, with a step and a value.
func many(n int, from, step, value int64) []api.Point {
	l := make([]api.Point, n)
	for i := range l {
		l[i] = api.Point{At: from + int64(i)*step, Value: value}
	}
	return l
}

// tell tells points, if they are few.
func tell(l []api.Point) string {
	if len(l) > 9 {
		return fmt.Sprintf("%v.. (%d in all)", l[:9], len(l))
	}
	return fmt.Sprint(l)
}

func checkErr(t *testing.T, what string, got, want api.Errno) {
	t.Helper()
	if got != want {
		t.Errorf("%s: error %d, want %d", what, got, want)
	}
}

// checkPack holds the bytes of points against bits, and their size.
func checkPack(t *testing.T, l []api.Point, bits string) {
	t.Helper()
	want := row(bits)
	got, e := Pack(l)
	if e != api.OK || !bytes.Equal(got, want) {
		t.Errorf("Pack of %s: %x, error %d, want %x", tell(l), got, e, want)
	}
	if n := Size(l); n != len(want) {
		t.Errorf("Size of %s: %d, want %d", tell(l), n, len(want))
	}
}

// checkNoPack wants an error of points, and nothing beside it.
func checkNoPack(t *testing.T, l []api.Point, want api.Errno) {
	t.Helper()
	if got, e := Pack(l); len(got) != 0 || e != want {
		t.Errorf("Pack of %s: %d bytes, error %d, want error %d", tell(l), len(got), e, want)
	}
	if n := Size(l); n != 0 {
		t.Errorf("Size of %s: %d, want 0", tell(l), n)
	}
}

func checkUnpack(t *testing.T, b []byte, want []api.Point) {
	t.Helper()
	if got, e := Unpack(b); e != api.OK || !slices.Equal(got, want) {
		t.Errorf("Unpack: %s, error %d, want %s", tell(got), e, tell(want))
	}
}

// checkNoUnpack wants an error of bytes, and nothing beside it.
func checkNoUnpack(t *testing.T, what string, b []byte, want api.Errno) {
	t.Helper()
	if got, e := Unpack(b); len(got) != 0 || e != want {
		t.Errorf("Unpack of %s: %s, error %d, want error %d", what, tell(got), e, want)
	}
}

// checkBoth packs, and unpacks what is packed.
func checkBoth(t *testing.T, l []api.Point) {
	t.Helper()
	bits := plain(l)
	checkPack(t, l, bits)
	checkUnpack(t, row(bits), l)
}

// must packs points that may be packed.
func must(t *testing.T, l []api.Point) []byte {
	t.Helper()
	b, e := Pack(l)
	checkErr(t, "Pack of "+tell(l), e, api.OK)
	return b
}

// P4.1
func TestExamples(t *testing.T) {
	checkPack(t, nil, "00000000 00000000")
	checkPack(t, []api.Point{}, "00000000 00000000")
	for _, n := range []int{1, 2, 3, 9, 100} {
		want := (16 + 41 + 64 + 14*(n-1) + 7) / 8
		if got := Size(many(n, 7, 1, -9)); got != want {
			t.Errorf("Size of %d points that rise by one: %d, want %d", n, got, want)
		}
	}
}

// P4.1: bits written out by hand.
func TestPackBits(t *testing.T) {
	zeros := func(n int) string { return strings.Repeat("0", n) }
	ones := func(n int) string { return strings.Repeat("1", n) }
	checkPack(t, points(0, 0), zeros(15)+"1"+zeros(41)+zeros(64))
	checkPack(t, points(5, -3), zeros(15)+"1"+zeros(38)+"101"+zeros(61)+"101")
	checkPack(t, points(end, lowest), zeros(15)+"1"+"1"+zeros(40)+ones(64))
	checkPack(t, points(end-1, highest), zeros(15)+"1"+"0"+ones(40)+ones(63)+"0")
	two := zeros(14) + "10" + zeros(41) + zeros(64)
	checkPack(t, points(0, 0, 1, 0), two+"0000000"+"0000000")
	checkPack(t, points(0, 0, 2, -1), two+"0000001 1"+"0000001 1")
	checkPack(t, points(0, 0, 6, 5), two+"0000011 101"+"0000100 1010")
	checkPack(t, points(0, 0, end, lowest), two+"0101000"+ones(40)+"1000000"+ones(64))
	checkPack(t, points(0, 0, 1<<39+1, highest), two+"0101000"+"1"+zeros(39)+"1000000"+ones(63)+"0")
}

// P4.1, P4.2: one point at each end.
func TestOne(t *testing.T) {
	for _, at := range []int64{0, 1, 2, 255, 1 << 20, end / 2, end - 1, end} {
		for _, value := range []int64{0, 1, -1, 77, -77, highest, highest - 1, lowest, lowest + 1, 1 << 62, -1 << 62} {
			checkBoth(t, points(at, value))
		}
	}
}

// P4.1, P4.2: steps of each width.
func TestSteps(t *testing.T) {
	for width := range 41 {
		least := int64(1) << width
		for _, step := range []int64{least - 1, least, least + 1} {
			if step < 1 || step > end {
				continue
			}
			checkBoth(t, points(0, 9, step, 9))
			checkBoth(t, points(end-step, -9, end, 4))
			if step < end-3 {
				checkBoth(t, points(1, 0, 2, 5, 2+step, 6, 3+step, 7))
			}
		}
	}
}

// P4.1, P4.2: changes of each width, and such as go round.
func TestChanges(t *testing.T) {
	var l []int64
	for n := range 64 {
		x := int64(1) << n
		l = append(l, x-1, x, x+1, -x, -x-1, -x+1)
	}
	l = append(l, 3037000499, -1234567890123, 6148914691236517205)
	for _, a := range l {
		for _, b := range l {
			checkBoth(t, points(10, a, 11, b))
		}
	}
}

// P4.1: a change that goes round is the small one.
func TestChangesRound(t *testing.T) {
	checkPack(t, points(3, highest, 4, lowest), head(2, 3, highest)+further(1, 1))
	checkPack(t, points(3, lowest, 4, highest), head(2, 3, lowest)+further(1, -1))
	checkPack(t, points(3, lowest+2, 4, highest-2), head(2, 3, lowest+2)+further(1, -5))
	checkPack(t, points(3, -1<<62, 4, 1<<62), head(2, 3, -1<<62)+further(1, lowest))
	checkPack(t, points(3, 1<<62, 4, -1<<62), head(2, 3, 1<<62)+further(1, lowest))
	checkPack(t, points(3, -1<<62, 4, 1<<62-1), head(2, 3, -1<<62)+further(1, highest))
}

// P4.1: how many points there may be.
func TestPackLong(t *testing.T) {
	for _, n := range []int{255, 256, 257, bound - 1, bound} {
		checkBoth(t, many(n, 3, 2, -8))
	}
	checkNoPack(t, many(bound+1, 3, 2, -8), api.ErrLong)
	checkNoPack(t, many(2*bound, 3, 2, -8), api.ErrLong)
	checkNoPack(t, many(bound+2, 3, 2, -8), api.ErrLong) // modulo 2^16 it would be one
}

// P4.1: a tick below, and above; which point it is of doesn't count.
func TestPackRange(t *testing.T) {
	for _, at := range []int64{-1, -2, lowest, lowest + 1, end + 1, end + 2, 1 << 41, highest} {
		checkNoPack(t, points(at, 0), api.ErrRange)
		checkNoPack(t, points(5, 0, at, 0), api.ErrRange)
		checkNoPack(t, points(at, 0, 5, 0), api.ErrRange)
		checkNoPack(t, points(5, 0, 9, 0, at, 0), api.ErrRange)
		checkNoPack(t, points(5, 0, at, 0, 9, 0), api.ErrRange)
	}
	checkBoth(t, points(0, 3, end, 4))
}

// P4.1
func TestPackOrder(t *testing.T) {
	for _, l := range [][]api.Point{
		points(5, 0, 5, 0), points(5, 1, 5, 2), points(0, 0, 0, 0), points(end, 0, end, 0),
		points(5, 0, 4, 0), points(end, 0, 0, 0), points(1, 0, 0, 0),
		points(1, 0, 2, 0, 2, 0), points(1, 0, 3, 0, 2, 0), points(2, 0, 1, 0, 3, 0), points(2, 0, 2, 0, 3, 0), points(1, 0, 5, 0, 3, 0, 9, 0),
	} {
		checkNoPack(t, l, api.ErrOrder)
	}
}

// P4.1: ErrLong, ErrRange, ErrOrder, wherever they stand.
func TestPackErrorsOrder(t *testing.T) {
	checkNoPack(t, points(5, 0, 5, 0, -1, 0), api.ErrRange)
	checkNoPack(t, points(5, 0, 4, 0, end+1, 0), api.ErrRange)
	checkNoPack(t, points(end+1, 0, 5, 0, 5, 0), api.ErrRange)
	long := many(bound+1, 0, 1, 0)
	for _, at := range []int64{-1, end + 1, 0} {
		first, last := slices.Clone(long), slices.Clone(long)
		first[1].At = at
		last[bound].At = at
		checkNoPack(t, first, api.ErrLong)
		checkNoPack(t, last, api.ErrLong)
	}
	checkNoPack(t, make([]api.Point, bound+1), api.ErrLong)
	full := many(bound, 0, 1, 0)
	full[7].At = 7_000_000
	full[bound-1].At = end + 1
	checkNoPack(t, full, api.ErrRange)
}

// P4.1: bytes that end amid each part.
func TestUnpackShort(t *testing.T) {
	for _, l := range [][]api.Point{
		nil, points(5, 6), many(3, 0, 1, 0), many(2, 3, 1000, 9),
		points(0, lowest, 1<<39+1, 1<<62), points(1, 2, 3, 4, 7, -100, end, highest), points(1, 0, 400, 12345678, 401, 12345678, 70000, lowest),
	} {
		b := must(t, l)
		for n := range b {
			checkNoUnpack(t, fmt.Sprintf("%d bytes of %v", n, l), b[:n], api.ErrShort)
		}
	}
	checkNoUnpack(t, "no bytes", nil, api.ErrShort)
	checkNoUnpack(t, "no bytes", []byte{}, api.ErrShort)
	checkNoUnpack(t, "one byte", []byte{0}, api.ErrShort)
	for _, n := range []uint64{1, 2, bound} {
		checkNoUnpack(t, "just how many", row(number(n, 16)), api.ErrShort)
		checkNoUnpack(t, "up to amid the tick", row(number(n, 16)+"01010101"), api.ErrShort)
		checkNoUnpack(t, "up to amid the value", row(head(n, 5, 5)[:104]), api.ErrShort)
		checkNoUnpack(t, "up to behind the first bits of the value", row(head(n, end, 5)[:64]), api.ErrShort)
	}
	checkNoUnpack(t, "one point less than there should be", row(head(3, 5, 5)+further(9, 1000)), api.ErrShort)
	checkNoUnpack(t, "65534 points less", row(head(bound, 5, 5)), api.ErrShort)
}

// behind is bits behind the first one of two points, that has the tick 100; they stand for the second one.
func behind(s string) []byte {
	s = strings.ReplaceAll(s, " ", "")
	return row(head(2, 100, 7) + s)
}

// P4.1: a width that isn't the number's own.
func TestUnpackOtherWidths(t *testing.T) {
	for own := range 65 {
		for width := own + 1; width <= 64; width++ {
			x := uint64(0)
			if own > 0 {
				x = uint64(1) << (own - 1)
			}
			wide := number(uint64(width), 7) + number(x, width)
			checkNoUnpack(t, fmt.Sprintf("a step of width %d as %d", own, width), behind(wide+sized(0)), api.ErrForm)
			checkNoUnpack(t, fmt.Sprintf("a change of width %d as %d", own, width), behind(sized(0)+wide), api.ErrForm)
		}
	}
}

// P4.1: a width above 64 is none, whatever stands behind it.
func TestUnpackWideWidths(t *testing.T) {
	for width := uint64(65); width < 128; width++ {
		w := number(width, 7)
		for _, rest := range []string{"", "1", strings.Repeat("1", int(width)), strings.Repeat("1", 300), strings.Repeat("0", 300)} {
			checkNoUnpack(t, fmt.Sprintf("a step of width %d", width), behind(w+rest), api.ErrForm)
			checkNoUnpack(t, fmt.Sprintf("a change of width %d", width), behind(sized(3)+w+rest), api.ErrForm)
		}
	}
}

// P4.1: bits behind the end are fewer than 8, all 0.
func TestUnpackRest(t *testing.T) {
	for _, l := range [][]api.Point{nil, points(3, 4), points(3, 4, 4, 4), points(3, 4, 5, 4), points(3, 4, 5, 3), points(3, 4, 7, 5), points(3, 4, 12, 9), points(3, 4, 12, 19), points(3, 4, 40, 30)} {
		bits := plain(l)
		for n := len(bits); n < (len(bits)+7)/8*8; n++ {
			b := row(bits)
			b[n/8] |= 128 >> (n % 8)
			checkNoUnpack(t, fmt.Sprintf("%v, bit %d behind the end", l, n), b, api.ErrForm)
		}
		for _, more := range [][]byte{{0}, {1}, {128}, {0, 0}, {255, 255}, make([]byte, 100)} {
			checkNoUnpack(t, fmt.Sprintf("%v, and %v", l, more), append(row(bits), more...), api.ErrForm)
		}
		checkUnpack(t, row(bits), l)
	}
	b := row(plain(points(3, 4, 4, 4))) // a step more than the number of points says
	b[1] = 1
	checkNoUnpack(t, "two points that say they are one", b, api.ErrForm)
	b[1] = 0
	checkNoUnpack(t, "two points that say they are none", b, api.ErrForm)
}

// P4.1: ticks up to 2^40, and above.
func TestUnpackRange(t *testing.T) {
	for _, at := range []int64{end + 1, end + 2, 1<<41 - 2, 1<<41 - 1} {
		checkNoUnpack(t, fmt.Sprintf("the tick %d", at), row(head(1, at, 7)), api.ErrRange)
		checkNoUnpack(t, fmt.Sprintf("the tick %d, and one more", at), row(head(2, at, 7)+further(1, 1)), api.ErrRange)
	}
	checkUnpack(t, row(head(1, end, 7)), points(end, 7))
	for _, at := range []int64{0, 1, 100, end - 2, end - 1, end} {
		left := uint64(end - at)
		for _, step := range []uint64{left + 1, left + 2, end + 1, 1 << 41, 1 << 62, 1 << 63, 1<<63 + 1, greatest - uint64(at), greatest - uint64(at) + 1, greatest - 1, greatest, 0} { // the step 0 stands for 2^64
			b := row(head(2, at, 7) + further(step, 1))
			checkNoUnpack(t, fmt.Sprintf("a step of %d from %d on", step, at), b, api.ErrRange)
		}
		if left > 0 {
			checkUnpack(t, row(head(2, at, 7)+further(left, 1)), points(at, 7, end, 8))
		}
	}
	checkNoUnpack(t, "a third tick above", row(head(3, 5, 7)+further(end-5, 1)+further(1, 1)), api.ErrRange)
}

// P4.1: the error whose bits come first.
func TestUnpackErrorsOrder(t *testing.T) {
	over := further(end, 1)[:47] // a step beyond the bound from the tick 100 on: its width, and 40 bits
	loose := number(3, 7) + "001"
	for _, x := range []struct {
		what string
		b    []byte
		want api.Errno
	}{
		{"a first tick above, and no value", row(head(1, end+1, 0)[:64]), api.ErrRange},
		{"a first tick above, and an end behind it", row(head(9, end+1, 0)), api.ErrRange},
		{"a first tick above, and a width above 64", row(head(2, end+1, 0) + "1111111"), api.ErrRange},
		{"a first tick above, and bits behind the end", row(head(1, end+1, 0) + "1111111"), api.ErrRange},
		{"a value that ends amid, and nothing else", row(head(1, end, 0)[:112]), api.ErrShort},
		{"a step beyond, and a change of a loose width", behind(over + loose), api.ErrRange},
		{"a step beyond, and a change of a width above 64", behind(over + "1000001"), api.ErrRange},
		{"a step beyond, and no change", behind(over), api.ErrRange},
		{"a step of a loose width, and nothing else", behind(loose), api.ErrForm},
		{"a step of a loose width, and a change of a width above 64", behind(loose + "1111111"), api.ErrForm},
		{"a step of a loose width that is beyond", behind(number(64, 7) + "0" + strings.Repeat("1", 63) + sized(0)), api.ErrForm},
		{"a change of a loose width, and a third point missing", row(head(3, 100, 7) + sized(0) + loose), api.ErrForm},
		{"a change of a width above 64, and a third step beyond", row(head(3, 100, 7) + sized(0) + "1000001" + over), api.ErrForm},
		{"a second step beyond, and a third of a loose width", row(head(3, 100, 7) + over + sized(0) + loose), api.ErrRange},
		{"a step that ends amid", behind(number(40, 7) + "1"), api.ErrShort},
		{"a step whose width ends amid", row(head(2, 100, 7) + "1111111")[:15], api.ErrShort},
		{"a change that ends amid, and would be loose", behind(sized(0) + number(64, 7) + "0000"), api.ErrShort},
		{"a loose change, and bits behind the end", behind(sized(0) + loose + strings.Repeat("1", 30)), api.ErrForm},
	} {
		checkNoUnpack(t, x.what, x.b, x.want)
	}
}

// P4.1: just the first bits are asked.
func TestCount(t *testing.T) {
	for _, x := range []struct {
		b    []byte
		want int
	}{
		{[]byte{0, 0}, 0}, {[]byte{0, 1}, 1}, {[]byte{1, 0}, 256}, {[]byte{1, 2}, 258}, {[]byte{255, 255}, bound}, {[]byte{128, 0}, 32768},
		{[]byte{0, 0, 255}, 0}, {[]byte{0, 5, 255, 255, 255}, 5},
	} {
		if got, e := Count(x.b); got != x.want || e != api.OK {
			t.Errorf("Count of %v: %d, error %d, want %d", x.b, got, e, x.want)
		}
	}
	for _, b := range [][]byte{nil, {}, {0}, {7}, {255}} {
		if got, e := Count(b); got != 0 || e != api.ErrShort {
			t.Errorf("Count of %v: %d, error %d, want error %d", b, got, e, api.ErrShort)
		}
	}
	for _, n := range []int{0, 1, 2, 300, bound} {
		if got, e := Count(must(t, many(n, 0, 1, 1))); got != n || e != api.OK {
			t.Errorf("Count of %d points: %d, error %d", n, got, e)
		}
	}
}

// both is the points of both lists, of one tick those of the second one.
func both(a, b []api.Point) []api.Point {
	m := map[int64]int64{}
	for _, p := range slices.Concat(a, b) {
		m[p.At] = p.Value
	}
	var l []api.Point
	for at, value := range m {
		l = append(l, api.Point{At: at, Value: value})
	}
	slices.SortFunc(l, func(p, q api.Point) int { return int(p.At - q.At) })
	return l
}

func checkMerge(t *testing.T, a, b, want []api.Point) {
	t.Helper()
	got, e := Merge(must(t, a), must(t, b))
	if e != api.OK || !bytes.Equal(got, row(plain(want))) {
		l, _ := Unpack(got)
		t.Errorf("Merge of %s and %s: %s, error %d, want %s", tell(a), tell(b), tell(l), e, tell(want))
	}
}

// P4.1
func TestMerge(t *testing.T) {
	checkMerge(t, nil, nil, nil)
	checkMerge(t, points(1, 2), nil, points(1, 2))
	checkMerge(t, nil, points(1, 2), points(1, 2))
	checkMerge(t, points(1, 2), points(1, 3), points(1, 3))
	checkMerge(t, points(1, 2), points(1, 2), points(1, 2))
	checkMerge(t, points(1, 1, 2, 2), points(3, 3, 4, 4), points(1, 1, 2, 2, 3, 3, 4, 4))
	checkMerge(t, points(3, 3, 4, 4), points(1, 1, 2, 2), points(1, 1, 2, 2, 3, 3, 4, 4))
	checkMerge(t, points(1, 1, 3, 3, 5, 5), points(2, 2, 4, 4, 6, 6), points(1, 1, 2, 2, 3, 3, 4, 4, 5, 5, 6, 6))
	checkMerge(t, points(1, 1, 3, 3, 5, 5), points(0, 9, 3, 9, 5, 8, 7, 9), points(0, 9, 1, 1, 3, 9, 5, 8, 7, 9))
	checkMerge(t, points(0, 9, 3, 9, 5, 8, 7, 9), points(1, 1, 3, 3, 5, 5), points(0, 9, 1, 1, 3, 3, 5, 5, 7, 9))
	checkMerge(t, points(0, highest, end, lowest), points(1, lowest, end, highest), points(0, highest, 1, lowest, end, highest))
	checkMerge(t, points(0, highest, end, lowest), points(0, lowest), points(0, lowest, end, lowest))
}

// P4.1
func TestMergeAny(t *testing.T) {
	rnd := rand.New(rand.NewSource(4))
	for range 500 {
		ticks := 1 + rnd.Int63n(40) // few, so that many are in both
		a, b := anyPoints(rnd, ticks), anyPoints(rnd, ticks)
		checkMerge(t, a, b, both(a, b))
	}
}

// P4.1: how many points there are together, those of one tick counted once.
func TestMergeLong(t *testing.T) {
	full := many(bound, 10, 2, 5)
	checkMerge(t, full, full, full)
	checkMerge(t, full, many(bound, 10, 2, -6), many(bound, 10, 2, -6))
	checkMerge(t, full, nil, full)
	checkMerge(t, nil, full, full)
	checkMerge(t, full, points(10, 5), full)
	checkMerge(t, full[1:], points(10, 5), full)
	checkMerge(t, full[:bound-1], points(full[bound-1].At, 5), full)
	for _, x := range [][2][]api.Point{
		{full, points(9, 0)}, {full, points(11, 0)}, {full, points(end, 0)}, {points(0, 0), full},
		{many(40000, 0, 2, 1), many(40000, 1, 2, 1)}, {full, many(bound, 11, 2, 5)}, {full, many(bound, 12, 2, 5)},
	} {
		if got, e := Merge(must(t, x[0]), must(t, x[1])); len(got) != 0 || e != api.ErrLong {
			t.Errorf("Merge of %s and %s: %d bytes, error %d, want error %d", tell(x[0]), tell(x[1]), len(got), e, api.ErrLong)
		}
	}
}

// P4.1: the first one's error is ahead of the second one's.
func TestMergeErrors(t *testing.T) {
	good := must(t, points(5, 6, 7, 8))
	full := must(t, many(bound, 0, 1, 0))
	bad := []struct {
		b []byte
		e api.Errno
	}{
		{nil, api.ErrShort}, {[]byte{}, api.ErrShort}, {[]byte{0}, api.ErrShort}, {good[:len(good)-1], api.ErrShort},
		{[]byte{0, 0, 0}, api.ErrForm}, {behind("1111111"), api.ErrForm}, {append(bytes.Clone(full), 0), api.ErrForm},
		{row(head(1, end+1, 0)), api.ErrRange},
	}
	check := func(a, b []byte, want api.Errno) {
		t.Helper()
		if got, e := Merge(a, b); len(got) != 0 || e != want {
			t.Errorf("Merge: %d bytes, error %d, want error %d", len(got), e, want)
		}
	}
	for _, x := range bad {
		for _, whole := range [][]byte{{0, 0}, good, full} {
			check(x.b, whole, x.e)
			check(whole, x.b, x.e)
		}
		for _, y := range bad {
			check(x.b, y.b, x.e)
		}
	}
}

// anyPoints are points with ticks below a bound, mostly close ones, and values of all sizes.
func anyPoints(rnd *rand.Rand, ticks int64) []api.Point {
	var l []api.Point
	for at := rnd.Int63n(ticks); at < ticks && len(l) < 50; {
		value := int64(rnd.Uint64()) >> rnd.Intn(64)
		if len(l) > 0 && rnd.Intn(3) == 0 {
			value = l[len(l)-1].Value
		}
		l = append(l, api.Point{At: at, Value: value})
		at += 1 + rnd.Int63n(ticks)>>rnd.Intn(41)
	}
	return l
}

// P4.2
func TestPackedIsUnpacked(t *testing.T) {
	rnd := rand.New(rand.NewSource(5))
	for range 1000 {
		checkBoth(t, anyPoints(rnd, 1+rnd.Int63n(end+1)>>rnd.Intn(40)))
	}
}

// look reads bits as text.
type look struct{ s string }

func (k *look) number(width int) (*big.Int, api.Errno) {
	if width > len(k.s) {
		return nil, api.ErrShort
	}
	x, _ := new(big.Int).SetString("0"+k.s[:width], 2)
	k.s = k.s[width:]
	return x, api.OK
}

func (k *look) sized() (*big.Int, api.Errno) {
	width, e := k.number(7)
	if e != api.OK {
		return nil, e
	}
	if width.Int64() > 64 {
		return nil, api.ErrForm
	}
	x, e := k.number(int(width.Int64()))
	if e == api.OK && int64(x.BitLen()) != width.Int64() {
		return nil, api.ErrForm
	}
	return x, e
}

// unfolded is what folds to a number, modulo 2^64 plus another one.
func unfolded(x *big.Int, from int64) int64 {
	half := new(big.Int).Rsh(x, 1)
	if x.Bit(0) == 1 {
		half.Not(half)
	}
	half.Add(half, big.NewInt(from))
	half.And(half, new(big.Int).SetUint64(greatest))
	return int64(half.Uint64())
}

// read is the points of a chunk's bits as text, or the error that comes first.
func read(s string) ([]api.Point, api.Errno) {
	k := &look{s}
	n, e := k.number(16)
	if e != api.OK {
		return nil, e
	}
	var l []api.Point
	last := api.Point{At: -1}
	for i := range int(n.Int64()) {
		step, value := k.sized, k.sized
		if i == 0 {
			step = func() (*big.Int, api.Errno) { return k.number(41) }
			value = func() (*big.Int, api.Errno) { return k.number(64) }
		}
		x, e := step()
		if e != api.OK {
			return nil, e
		}
		x.Add(x, big.NewInt(last.At+1))
		if x.Cmp(big.NewInt(end)) > 0 {
			return nil, api.ErrRange
		}
		y, e := value()
		if e != api.OK {
			return nil, e
		}
		last = api.Point{At: x.Int64(), Value: unfolded(y, last.Value)}
		l = append(l, last)
	}
	if len(k.s) >= 8 || strings.Contains(k.s, "1") {
		return nil, api.ErrForm
	}
	return l, api.OK
}

// P4.1, P4.2: chunks with some bits another, and with bytes more and less; those that are unpacked are packed to the same bytes.
func TestUnpackAny(t *testing.T) {
	rnd := rand.New(rand.NewSource(6))
	told := map[api.Errno]int{}
	for range 20000 {
		b := row(plain(anyPoints(rnd, 1+rnd.Int63n(end+1)>>rnd.Intn(40))))
		for range rnd.Intn(3) {
			b[rnd.Intn(len(b))] ^= 128 >> rnd.Intn(8)
		}
		switch rnd.Intn(8) {
		case 0:
			b = b[:rnd.Intn(len(b)+1)]
		case 1:
			b = append(b, byte(rnd.Intn(256)))
		}
		var s strings.Builder
		for _, x := range b {
			fmt.Fprintf(&s, "%08b", x)
		}
		want, wantErr := read(s.String())
		got, e := Unpack(b)
		if e != wantErr || !slices.Equal(got, want) {
			t.Fatalf("Unpack of %x: %s, error %d, want %s, error %d", b, tell(got), e, tell(want), wantErr)
		}
		if e == api.OK {
			checkPack(t, got, s.String())
		}
		told[e]++
	}
	for _, e := range []api.Errno{api.OK, api.ErrShort, api.ErrForm, api.ErrRange} {
		if told[e] < 100 {
			t.Errorf("error %d was told only %d times", e, told[e])
		}
	}
}

// P4.2: what is handed in isn't changed, its spare room neither.
func TestHandedIn(t *testing.T) {
	room := many(9, 1, 3, -4)
	old := slices.Clone(room)
	b := must(t, room[:5])
	Size(room[:5])
	if !slices.Equal(room, old) {
		t.Errorf("points changed to %v", room)
	}
	wide := append(bytes.Clone(b), 1, 2, 3)
	other := append(must(t, points(2, 5, 4, 6)), 4, 5, 6)
	oldWide, oldOther := bytes.Clone(wide), bytes.Clone(other)
	Unpack(wide[:len(b)])
	Count(wide[:len(b)])
	if _, e := Merge(wide[:len(b)], other[:len(other)-3]); e != api.OK {
		t.Errorf("Merge: error %d", e)
	}
	if !bytes.Equal(wide, oldWide) || !bytes.Equal(other, oldOther) {
		t.Errorf("bytes changed to %v and %v", wide, other)
	}
}

// P4.2: answers hang no more on what was handed in, and share nothing with it or with each other.
func TestAnswers(t *testing.T) {
	l := many(5, 1, 3, -4)
	want := slices.Clone(l)
	b, again := must(t, l), must(t, l)
	clear(l)
	checkUnpack(t, b, want)
	first, _ := Unpack(b)
	second, _ := Unpack(b)
	clear(first)
	_ = append(first[:0], want[4], want[4])
	if !slices.Equal(second, want) {
		t.Errorf("an answer shares with another one: %v", second)
	}
	merged, _ := Merge(b, []byte{0, 0})
	turned, _ := Merge([]byte{0, 0}, b)
	clear(b)
	for _, x := range [][]byte{again, merged, turned} {
		checkUnpack(t, x, want)
	}
	clear(merged)
	checkUnpack(t, turned, want)
	if !slices.Equal(second, want) {
		t.Errorf("points hang on the bytes handed in: %v", second)
	}
	none, _ := Pack(nil)
	none[0] = 9
	checkPack(t, nil, number(0, 16))
}
