package hex

import (
	"bytes"
	"encoding/hex"
	"fmt"
	"math"
	"math/rand"
	"strconv"
	"strings"
	"testing"
	"unsafe"

	"catacomb/api"
)

// lengths are those of rows around the edges of lines, and of places of more signs.
func lengths() []int {
	l := []int{127, 128, 129, 255, 256, 257, 271, 272, 273, 4095, 4096, 4097, 65535, 65536, 65537, 1<<20 + 5}
	for n := range 100 {
		l = append(l, n)
	}
	return l
}

// some is so many bytes without a rule, the same ones each time.
func some(n int) []byte {
	b := make([]byte, n)
	rand.New(rand.NewSource(int64(n) + 1)).Read(b)
	return b
}

// all is the 256 values of a byte, rising.
func all() []byte {
	b := make([]byte, 256)
	for i := range b {
		b[i] = byte(i)
	}
	return b
}

// rows are of all lengths and values.
func rows() [][]byte {
	l := [][]byte{nil, {}, all(), {0}, {255}, {0, 255}, {255, 0}, {0x0f}, {0xf0}, {0x12, 0x34}}
	for _, n := range lengths() {
		l = append(l, some(n), make([]byte, n), bytes.Repeat([]byte{255}, n))
	}
	return l
}

// isSign tells whether a byte is one of the 16 signs.
func isSign(x byte) bool {
	return strings.IndexByte("0123456789abcdef", x) >= 0
}

// dump is lines as the chapter tells them, by the library's means.
func dump(b []byte) string {
	var s strings.Builder
	for i, x := range b {
		switch {
		case i == 0:
			fmt.Fprintf(&s, "%08x: %02x", i, x)
		case i%16 == 0:
			fmt.Fprintf(&s, "\n%08x: %02x", i, x)
		default:
			fmt.Fprintf(&s, " %02x", x)
		}
	}
	if len(b) > 0 {
		s.WriteString("\n")
	}
	return s.String()
}

// short is a text's beginning, to be told.
func short(s string) string {
	return fmt.Sprintf("%d signs (%.40q..)", len(s), s)
}

func checkText(t *testing.T, b []byte, want string) {
	t.Helper()
	if got := Text(b); got != want {
		t.Errorf("Text of %d bytes (%.20x..): %s, want %s", len(b), b, short(got), short(want))
	}
}

func checkParse(t *testing.T, s string, want []byte) {
	t.Helper()
	if got, e := Parse(s); !bytes.Equal(got, want) || e != api.OK {
		t.Errorf("Parse of %s: %.20x.., %d, want %.20x.., 0", short(s), got, e, want)
	}
}

// checkError holds that a text isn't parsed, and that nothing stands beside its error.
func checkError(t *testing.T, s string, want api.Errno) {
	t.Helper()
	if got, e := Parse(s); len(got) != 0 || e != want {
		t.Errorf("Parse of %s: %.20x.., %d, want none, %d", short(s), got, e, want)
	}
}

func checkDump(t *testing.T, b []byte, want string) {
	t.Helper()
	if got := Dump(b); got != want {
		t.Errorf("Dump of %d bytes (%.20x..): %.200q.., want %.200q..", len(b), b, got, want)
	}
}

func checkNumber(t *testing.T, x uint64, want string) {
	t.Helper()
	if got := Number(x); got != want {
		t.Errorf("Number of %d: %q, want %q", x, got, want)
	}
}

// P7.1
func TestExample(t *testing.T) {
	checkText(t, []byte{0, 255}, "00ff")
}

// P7.1: texts that are written by hand.
func TestTextKnown(t *testing.T) {
	for _, x := range []struct {
		b    []byte
		want string
	}{
		{nil, ""},
		{[]byte{}, ""},
		{some(9)[:0], ""},
		{[]byte{0}, "00"},
		{[]byte{1}, "01"},
		{[]byte{9}, "09"},
		{[]byte{10}, "0a"},
		{[]byte{15}, "0f"},
		{[]byte{16}, "10"},
		{[]byte{144}, "90"},
		{[]byte{160}, "a0"},
		{[]byte{240}, "f0"},
		{[]byte{255}, "ff"},
		{[]byte{1, 2}, "0102"},
		{[]byte{0x01, 0x23, 0x45, 0x67, 0x89, 0xab, 0xcd, 0xef}, "0123456789abcdef"},
		{[]byte{0xfe, 0xdc, 0xba, 0x98, 0x76, 0x54, 0x32, 0x10}, "fedcba9876543210"},
		{[]byte("abc\n\x00\x80"), "6162630a0080"},
	} {
		checkText(t, x.b, x.want)
		checkParse(t, x.want, x.b)
	}
}

// P7.1: each byte, by itself and among others.
func TestTextOfAllBytes(t *testing.T) {
	for x := range 256 {
		b := byte(x)
		want := fmt.Sprintf("%02x", x)
		checkText(t, []byte{b}, want)
		checkText(t, []byte{0x5a, b, 0xa5}, "5a"+want+"a5")
		checkParse(t, want, []byte{b})
		checkParse(t, "5a"+want+"a5", []byte{0x5a, b, 0xa5})
	}
	checkText(t, all(), hex.EncodeToString(all()))
	checkParse(t, hex.EncodeToString(all()), all())
}

// P7.1, P7.2: rows of all lengths; what is told is parsed.
func TestRows(t *testing.T) {
	for _, b := range rows() {
		checkText(t, b, hex.EncodeToString(b))
		checkParse(t, hex.EncodeToString(b), b)
		checkParse(t, Text(b), b)
		checkDump(t, b, dump(b))
	}
}

// P7.1: all texts of one byte and of two.
func TestParseAllShort(t *testing.T) {
	for x := range 256 {
		one := string([]byte{byte(x)})
		if isSign(byte(x)) {
			checkError(t, one, api.ErrShort)
		} else {
			checkError(t, one, api.ErrForm)
		}
		for y := range 256 {
			two := one + string([]byte{byte(y)})
			n, err := strconv.ParseUint(two, 16, 8)
			if isSign(byte(x)) && isSign(byte(y)) && err == nil {
				checkParse(t, two, []byte{byte(n)})
			} else {
				checkError(t, two, api.ErrForm)
			}
		}
	}
}

// P7.1: each byte that is no sign, at each place of texts of even and of odd lengths; it goes ahead of an odd number.
func TestNoSigns(t *testing.T) {
	for n := 1; n <= 35; n++ {
		text := []byte(strings.Repeat("0123456789abcdef", 3)[:n])
		for i, was := range text {
			for x := range 256 {
				if isSign(byte(x)) {
					continue
				}
				text[i] = byte(x)
				checkError(t, string(text), api.ErrForm)
			}
			text[i] = was
		}
	}
}

// P7.1: a sign that is none, far behind others, at the end of a long text.
func TestNoSignsLong(t *testing.T) {
	for _, n := range []int{4095, 4096, 4097, 65535, 65536, 1 << 20, 1<<20 + 1} {
		text := strings.Repeat("a", n)
		for _, no := range []string{"/", ":", "`", "g", "A", "F", "@", "G", " ", "\n", "\x00", "\xff"} {
			checkError(t, text+no, api.ErrForm)
			checkError(t, no+text, api.ErrForm)
			checkError(t, text+no+text, api.ErrForm)
		}
	}
}

// P7.1: texts that others would take for signs.
func TestWrongTexts(t *testing.T) {
	for _, s := range []string{
		"0A", "A0", "AF", "0aF0", "FF", "Ff", "fF", "ABCDEF", "abcdeF", "Abcdef", "abCdef", "abc0DE", "0aF", "A", "F",
		"0/", "/0", ":0", "0:", "`a", "a`", "ga", "ag", "0g", "@a", "a@", "G0", "g", "/", ":", "`",
		"0x", "0x00", "0X00", "x0", "00h", "#00", "\\x00", "%00", "+0", "-0", "-1", "+1", "00-0", "0_0", "0.0", "1e+2", "0b", "0b0o",
		" ", "  ", " 00", "00 ", "0 0", "00 00", "00\n", "\n00", "00\r\n", "00\t", "00\x00", "\x00", "\x00\x00", "00,00", "00:00", "00000000: 00\n",
		"\xff", "\xff\xfe", "00\xff", "\u00e9", "0\u00e9", "\u0660\u0661", "\uff10\uff11", "\uff41\uff42", "00\u20ac", "\U0001d7ce", "0\u0130",
		"i", "o", "l", "z", "zz", "zzz", "og", "O0", "0O", "l1", "nil", "null", "\"00\"",
	} {
		if strings.Trim(s, "0123456789abcdef") == "" {
			continue
		}
		checkError(t, s, api.ErrForm)
		checkError(t, s+"0", api.ErrForm)
		checkError(t, "0"+s, api.ErrForm)
		checkError(t, s+s, api.ErrForm)
	}
	// These look like numbers of other forms, but are of signs alone.
	checkParse(t, "0b", []byte{11})
	checkParse(t, "1e02", []byte{30, 2})
	checkError(t, "0b0", api.ErrShort)
}

// P7.1: an odd number of signs, of all lengths.
func TestOdd(t *testing.T) {
	for _, b := range rows() {
		for _, sign := range "0123456789abcdef" {
			if len(b) < 5000 || sign == 'f' {
				checkError(t, Text(b)+string(sign), api.ErrShort)
				checkError(t, string(sign)+Text(b), api.ErrShort)
			}
		}
	}
	checkError(t, "0af", api.ErrShort)
	checkError(t, "0", api.ErrShort)
}

// P7.1: dumps that are written by hand: a last line that isn't full, one that is, and the next one.
func TestDumpKnown(t *testing.T) {
	const (
		fifteen = "00000000: 00 01 02 03 04 05 06 07 08 09 0a 0b 0c 0d 0e"
		line    = "00000000: 00 01 02 03 04 05 06 07 08 09 0a 0b 0c 0d 0e 0f\n"
		next    = "00000010: 10 11 12 13 14 15 16 17 18 19 1a 1b 1c 1d 1e 1f\n"
		third   = "00000020: 20 21 22 23 24 25 26 27 28 29 2a 2b 2c 2d 2e 2f\n"
	)
	for _, x := range []struct {
		n    int
		want string
	}{
		{0, ""},
		{1, "00000000: 00\n"},
		{2, "00000000: 00 01\n"},
		{15, fifteen + "\n"},
		{16, line},
		{17, line + "00000010: 10\n"},
		{18, line + "00000010: 10 11\n"},
		{31, line + strings.TrimSuffix(next, " 1f\n") + "\n"},
		{32, line + next},
		{33, line + next + "00000020: 20\n"},
		{48, line + next + third},
		{49, line + next + third + "00000030: 30\n"},
	} {
		checkDump(t, all()[:x.n], x.want)
	}
	checkDump(t, nil, "")
	checkDump(t, []byte{}, "")
	checkDump(t, []byte{255}, "00000000: ff\n")
	checkDump(t, []byte("a\n: "), "00000000: 61 0a 3a 20\n")
}

// P7.1: the parts of a dump's lines: places, and the row's bytes, wherever it is cut.
func TestDumpLines(t *testing.T) {
	for _, n := range lengths() {
		b := some(n)
		var back []byte
		lines := strings.SplitAfter(Dump(b), "\n")
		if last := lines[len(lines)-1]; last != "" {
			t.Errorf("Dump of %d bytes: behind its last line feed: %q", n, last)
		}
		lines = lines[:len(lines)-1]
		if len(lines) != (n+15)/16 {
			t.Errorf("Dump of %d bytes: %d lines", n, len(lines))
		}
		for i, line := range lines {
			if want := Number(uint64(16 * i))[8:] + ": "; !strings.HasPrefix(line, want) {
				t.Fatalf("Dump of %d bytes: line %q, want its beginning %q", n, line, want)
			}
			part, e := Parse(strings.ReplaceAll(line[10:len(line)-1], " ", ""))
			if e != api.OK || i < len(lines)-1 && len(part) != 16 || len(line) != 10+3*len(part) {
				t.Fatalf("Dump of %d bytes: line %q", n, line)
			}
			back = append(back, part...)
		}
		if !bytes.Equal(back, b) {
			t.Errorf("Dump of %d bytes tells other ones", n)
		}
	}
}

// P7.1: places of more signs.
func TestDumpLong(t *testing.T) {
	const ofLine = 10 + 3*16
	s := Dump(make([]byte, 1<<24+1))
	if len(s) != 1<<20*ofLine+len("01000000: 00\n") {
		t.Fatalf("Dump of 2^24+1 bytes has %d signs", len(s))
	}
	for line := range 1 << 20 {
		got := s[line*ofLine : line*ofLine+12]
		if want := fmt.Sprintf("%08x: 00", 16*line); got != want {
			t.Fatalf("line %d begins with %q, want %q", line, got, want)
		}
	}
	if got := s[1<<20*ofLine:]; got != "01000000: 00\n" {
		t.Errorf("the last line is %q", got)
	}
}

// P7.1: numbers that are written by hand.
func TestNumberKnown(t *testing.T) {
	for _, x := range []struct {
		n    uint64
		want string
	}{
		{0, "0000000000000000"},
		{1, "0000000000000001"},
		{9, "0000000000000009"},
		{10, "000000000000000a"},
		{15, "000000000000000f"},
		{16, "0000000000000010"},
		{255, "00000000000000ff"},
		{256, "0000000000000100"},
		{65535, "000000000000ffff"},
		{math.MaxUint32, "00000000ffffffff"},
		{math.MaxUint32 + 1, "0000000100000000"},
		{0xdeadbeef, "00000000deadbeef"},
		{0xdeadbeef << 32, "deadbeef00000000"},
		{0x0123456789abcdef, "0123456789abcdef"},
		{0xfedcba9876543210, "fedcba9876543210"},
		{api.MaxTime, "0000010000000000"},
		{math.MaxInt64, "7fffffffffffffff"},
		{math.MaxInt64 + 1, "8000000000000000"},
		{math.MaxUint64 - 1, "fffffffffffffffe"},
		{math.MaxUint64, "ffffffffffffffff"},
	} {
		checkNumber(t, x.n, x.want)
	}
}

// P7.1: each sign at each of the 16 places, and numbers around all powers of 2.
func TestNumberPlaces(t *testing.T) {
	for place := range 16 {
		for sign := range uint64(16) {
			x := sign << (4 * place)
			want := []byte(strings.Repeat("0", 16))
			want[15-place] = "0123456789abcdef"[sign]
			checkNumber(t, x, string(want))
			checkNumber(t, ^x, fmt.Sprintf("%016x", ^x))
		}
	}
	for i := range 64 {
		for _, x := range []uint64{1<<i - 1, 1 << i, 1<<i + 1, ^uint64(0) << i} {
			checkNumber(t, x, fmt.Sprintf("%016x", x))
		}
	}
}

// P7.1: a number's signs are those of its 8 bytes, the highest one first.
func TestNumberIsText(t *testing.T) {
	r := rand.New(rand.NewSource(7))
	for range 20000 {
		x := r.Uint64() >> r.Intn(64)
		checkNumber(t, x, fmt.Sprintf("%016x", x))
		b := make([]byte, 8)
		for i := range b {
			b[i] = byte(x >> (8 * (7 - i)))
		}
		checkText(t, b, Number(x))
		checkParse(t, Number(x), b)
	}
}

// P7.2: rows and texts by chance; what is told is parsed, and what is parsed is told.
func TestChance(t *testing.T) {
	r := rand.New(rand.NewSource(8))
	for range 20000 {
		b := make([]byte, r.Intn(60))
		r.Read(b)
		text := Text(b)
		checkText(t, b, hex.EncodeToString(b))
		checkParse(t, text, b)
		checkDump(t, b, dump(b))
		back, _ := Parse(text)
		if again := Text(back); again != text {
			t.Errorf("%q is parsed and told as %q", text, again)
		}
		i := r.Intn(len(text) + 1)
		checkError(t, text[:i]+"7"+text[i:], api.ErrShort)
		checkError(t, text[:i]+"7F"+text[i:], api.ErrForm)
		checkError(t, text[:i]+"G"+text[i:], api.ErrForm)
	}
}

// P7.2: neither a row nor the spare room behind it, nor what stands ahead of it, is changed.
func TestHandedInStays(t *testing.T) {
	for _, n := range []int{0, 1, 15, 16, 17, 31, 32, 33, 100, 256} {
		room := some(n + 300)
		was := bytes.Clone(room)
		for _, b := range [][]byte{room[:n], room[20 : 20+n], room[20 : 20+n : 20+n]} {
			Text(b)
			Dump(b)
			back, _ := Parse(Text(b))
			clear(back[:cap(back)])
		}
		if !bytes.Equal(room, was) {
			t.Errorf("a row of %d bytes, or the room around it, is changed", n)
		}
	}
}

// P7.2: a row may be changed behind a call; what was told stays, and what is told then hangs on the row as it is then.
func TestHandedInIsNotKept(t *testing.T) {
	for _, n := range []int{1, 2, 15, 16, 17, 32, 33, 256, 5000} {
		b := some(n)
		was := bytes.Clone(b)
		text, lines := Text(b), Dump(b)
		for i := range b {
			b[i] = ^b[i]
		}
		if text != hex.EncodeToString(was) || lines != dump(was) {
			t.Errorf("%d bytes, changed behind the calls: %s, %s", n, short(text), short(lines))
		}
		checkText(t, b, hex.EncodeToString(b))
		checkDump(t, b, dump(b))
		checkText(t, was, text)
		checkDump(t, was, lines)
	}
}

// P7.2: of two calls' answers one is changed, filled up and cleared; the other one, and the next ones, are as they were.
func TestAnswersAreNew(t *testing.T) {
	for _, n := range []int{0, 1, 2, 3, 15, 16, 17, 32, 33, 256, 5000} {
		b := some(n)
		text := Text(b)
		one, _ := Parse(text)
		two, _ := Parse(text)
		clear(one)
		for range 40 {
			one = append(one, 0xee)
		}
		clear(one[:cap(one)])
		if !bytes.Equal(two, b) {
			t.Errorf("%d bytes: one answer is changed by another one", n)
		}
		if text != hex.EncodeToString(b) {
			t.Errorf("%d bytes: the text is changed by an answer", n)
		}
		checkParse(t, text, b)
	}
}

// P7.2: a text that lies in the caller's own bytes may be changed behind the call.
func TestTextIsNotKept(t *testing.T) {
	for _, n := range []int{1, 2, 16, 33, 500} {
		b := some(n)
		own := []byte(hex.EncodeToString(b))
		got, e := Parse(unsafe.String(&own[0], len(own)))
		for i := range own {
			own[i] = '0'
		}
		if !bytes.Equal(got, b) || e != api.OK {
			t.Errorf("%d bytes: the answer is changed with the text: %.20x.., %d", n, got, e)
		}
	}
}
