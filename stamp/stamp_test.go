package stamp_test

import (
	"bytes"
	"encoding/binary"
	"fmt"
	"math"
	"math/rand"
	"slices"
	"strings"
	"testing"

	"catacomb/api"
	"catacomb/device"
	"catacomb/stamp"
)

const (
	size   = 64             // of a stamped sector
	atMark = 8              // where it tells how many bytes it bears
	atData = 9              // where these begin
	atEnd  = 56             // where its second stamp begins
	most   = 47             // bytes that it bears
	final  = 128            // more in its mark, if it is the last one
	top    = math.MaxUint32 // the greatest turn, and place
)

// turns are those of stamps, with each of their bytes alone, at both ends.
func turns() []uint32 {
	return []uint32{1, 2, 255, 256, 1 << 16, 1 << 24, 0x01020304, 1<<31 - 1, 1 << 31, top - 1, top}
}

// places are likewise, with 0.
func places() []uint32 {
	return []uint32{0, 1, 2, 255, 256, 1 << 16, 1 << 24, 0xa1b2c3d4, 1 << 31, top - 1, top}
}

// stamps are all of these together.
func stamps() []stamp.Stamp {
	var l []stamp.Stamp
	for _, turn := range turns() {
		for _, place := range places() {
			l = append(l, stamp.Stamp{Turn: turn, Place: place})
		}
	}
	return l
}

// some is so many bytes, none of them 0, the same ones each time.
func some(n int) []byte {
	b := make([]byte, n)
	for i := range b {
		b[i] = byte(1 + (i*89+n*31)%255)
	}
	return b
}

// row is a sector's bytes as the chapter tells them, be they of the form or not.
func row(s stamp.Stamp, mark byte, borne []byte) []byte {
	b := make([]byte, size)
	for _, at := range []int{0, atEnd} {
		binary.BigEndian.PutUint32(b[at:], s.Turn)
		binary.BigEndian.PutUint32(b[at+4:], s.Place)
	}
	b[atMark] = mark
	copy(b[atData:atEnd], borne)
	return b
}

// packed is row, with a mark that fits.
func packed(s stamp.Sector) []byte {
	mark := byte(len(s.Data))
	if s.Last {
		mark |= final
	}
	return row(s.Stamp, mark, s.Data)
}

// sector is one of so many bytes.
func sector(turn, place uint32, last bool, data []byte) stamp.Sector {
	return stamp.Sector{Stamp: stamp.Stamp{Turn: turn, Place: place}, Last: last, Data: data}
}

// plainUnpack reads a sector as the chapter tells it, by texts.
func plainUnpack(b []byte) (stamp.Sector, api.Errno) {
	s := string(b)
	switch {
	case len(s) < size:
		return stamp.Sector{}, api.ErrShort
	case len(s) > size:
		return stamp.Sector{}, api.ErrLong
	case strings.Trim(s, "\x00") == "":
		return stamp.Sector{}, api.ErrNone
	case s[:atMark] != s[atEnd:]:
		return stamp.Sector{}, api.ErrTorn
	}
	turn, place := binary.BigEndian.Uint32(b), binary.BigEndian.Uint32(b[4:])
	n := int(b[atMark] & 127)
	if turn == 0 || n > most || strings.Trim(s[atData+n:atEnd], "\x00") != "" {
		return stamp.Sector{}, api.ErrForm
	}
	return sector(turn, place, b[atMark]&final != 0, []byte(s[atData:atData+n])), api.OK
}

// plainSplit is a record's sectors, piece by piece.
func plainSplit(turn, place uint32, data []byte) []stamp.Sector {
	var l []stamp.Sector
	for len(data) > most {
		l = append(l, sector(turn, place, false, data[:most]))
		data = data[most:]
		place++
	}
	return append(l, sector(turn, place, true, data))
}

// same holds two sectors against each other.
func same(a, b stamp.Sector) bool {
	return a.Stamp == b.Stamp && a.Last == b.Last && bytes.Equal(a.Data, b.Data)
}

func checkErr(t *testing.T, what string, got, want api.Errno) {
	t.Helper()
	if got != want {
		t.Errorf("%s: error %d, want %d", what, got, want)
	}
}

func checkPack(t *testing.T, s stamp.Sector, want []byte) {
	t.Helper()
	if got, e := stamp.Pack(s); !bytes.Equal(got, want) || e != api.OK {
		t.Errorf("Pack(%v): %v, error %d; want %v, 0", s, got, e, want)
	}
}

func checkNoPack(t *testing.T, s stamp.Sector, want api.Errno) {
	t.Helper()
	if got, e := stamp.Pack(s); len(got) != 0 || e != want {
		t.Errorf("Pack of %v, %d bytes: %v, error %d; want none, %d", s.Stamp, len(s.Data), got, e, want)
	}
}

// checkUnpack holds the sector, and the turn, that bytes tell against what is wanted.
func checkUnpack(t *testing.T, b []byte, want stamp.Sector, e api.Errno) {
	t.Helper()
	got, err := stamp.Unpack(b)
	if !same(got, want) || err != e {
		t.Errorf("Unpack(%v): %v, error %d; want %v, %d", b, got, err, want, e)
	}
	if turn := stamp.Turn(b); turn != want.Stamp.Turn {
		t.Errorf("Turn(%v): %d, want %d", b, turn, want.Stamp.Turn)
	}
}

// checkNoUnpack holds that bytes are no stamped sector, and why.
func checkNoUnpack(t *testing.T, b []byte, want api.Errno) {
	t.Helper()
	checkUnpack(t, b, stamp.Sector{}, want)
}

func checkSplit(t *testing.T, turn, place uint32, data []byte) {
	t.Helper()
	got, e := stamp.Split(turn, place, data)
	if !slices.EqualFunc(got, plainSplit(turn, place, data), same) || e != api.OK {
		t.Errorf("Split(%d, %d) of %d bytes: %d sectors, error %d", turn, place, len(data), len(got), e)
	}
}

func checkNoSplit(t *testing.T, turn, place uint32, data []byte, want api.Errno) {
	t.Helper()
	if got, e := stamp.Split(turn, place, data); len(got) != 0 || e != want {
		t.Errorf("Split(%d, %d) of %d bytes: %d sectors, error %d; want none, %d", turn, place, len(data), len(got), e, want)
	}
}

func checkJoin(t *testing.T, what string, l []stamp.Sector, want []byte) {
	t.Helper()
	if got, e := stamp.Join(l); !bytes.Equal(got, want) || e != api.OK {
		t.Errorf("%s: Join of %d sectors: %d bytes, error %d; want %d, 0", what, len(l), len(got), e, len(want))
	}
}

func checkNoJoin(t *testing.T, what string, l []stamp.Sector, want api.Errno) {
	t.Helper()
	if got, e := stamp.Join(l); len(got) != 0 || e != want {
		t.Errorf("%s: Join of %d sectors: %d bytes, error %d; want none, %d", what, len(l), len(got), e, want)
	}
}

// The chapter's example, and rows written by hand.

func TestExample(t *testing.T) {
	data := some(100)
	l, e := stamp.Split(1, 0, data)
	checkErr(t, "Split", e, api.OK)
	if len(l) != 3 {
		t.Fatalf("%d sectors, want 3", len(l))
	}
	for i, n := range []int{47, 47, 6} {
		if len(l[i].Data) != n {
			t.Errorf("sector %d: %d bytes, want %d", i, len(l[i].Data), n)
		}
	}
	checkJoin(t, "those of 100 bytes", l, data)
}

func TestPackKnown(t *testing.T) {
	checkPack(t, sector(1, 2, false, []byte("old")), []byte("\x00\x00\x00\x01\x00\x00\x00\x02\x03old"+strings.Repeat("\x00", 44)+"\x00\x00\x00\x01\x00\x00\x00\x02"))
	checkPack(t, sector(0x01020304, 0xa1b2c3d4, true, []byte("new")), []byte("\x01\x02\x03\x04\xa1\xb2\xc3\xd4\x83new"+strings.Repeat("\x00", 44)+"\x01\x02\x03\x04\xa1\xb2\xc3\xd4"))
	checkPack(t, sector(top, 0, true, nil), []byte("\xff\xff\xff\xff\x00\x00\x00\x00\x80"+strings.Repeat("\x00", 47)+"\xff\xff\xff\xff\x00\x00\x00\x00"))
	checkPack(t, sector(256, top, false, []byte{}), []byte("\x00\x00\x01\x00\xff\xff\xff\xff\x00"+strings.Repeat("\x00", 47)+"\x00\x00\x01\x00\xff\xff\xff\xff"))
	z := strings.Repeat("z", 47)
	checkPack(t, sector(1, 0, true, []byte(z)), []byte("\x00\x00\x00\x01\x00\x00\x00\x00\xaf"+z+"\x00\x00\x00\x01\x00\x00\x00\x00"))
	checkPack(t, sector(1, 0, false, []byte(z)), []byte("\x00\x00\x00\x01\x00\x00\x00\x00\x2f"+z+"\x00\x00\x00\x01\x00\x00\x00\x00"))
}

// Pack.

func TestPack(t *testing.T) {
	for _, s := range stamps() {
		for n := range most + 1 {
			for _, last := range []bool{false, true} {
				x := sector(s.Turn, s.Place, last, some(n))
				checkPack(t, x, packed(x))
				checkUnpack(t, packed(x), x, api.OK)
			}
		}
	}
}

func TestPackOfZeros(t *testing.T) {
	for n := range most + 1 {
		x := sector(7, 0, n%2 == 0, make([]byte, n))
		checkPack(t, x, packed(x))
		checkUnpack(t, packed(x), x, api.OK)
	}
}

// overlong are numbers of bytes that no sector bears, some of which would go round in a byte.
func overlong() []int {
	return []int{48, 49, 63, 64, 65, 127, 128, 129, 128 + 46, 128 + 47, 255, 256, 257, 256 + 47, 65536, 65536 + 5, 1 << 20}
}

func TestPackErrors(t *testing.T) {
	for _, last := range []bool{false, true} {
		for _, place := range places() {
			for n := range most + 1 {
				checkNoPack(t, sector(0, place, last, some(n)), api.ErrArg)
			}
			for _, n := range overlong() {
				checkNoPack(t, sector(0, place, last, some(n)), api.ErrArg)
				checkNoPack(t, sector(1, place, last, some(n)), api.ErrLong)
				checkNoPack(t, sector(top, place, last, make([]byte, n)), api.ErrLong)
			}
		}
	}
	checkNoPack(t, stamp.Sector{}, api.ErrArg)
}

// Unpack, and Turn.

// wrongLengths are all but 64.
func wrongLengths() []int {
	l := []int{256 + 63, 256 + 64, 64 * 64, 65536, 65536 + 64, 1 << 20}
	for n := range 300 {
		if n != size {
			l = append(l, n)
		}
	}
	return l
}

// cut is so many bytes of a row that is told again and again.
func cut(b []byte, n int) []byte { return bytes.Repeat(b, n/len(b)+1)[:n] }

func TestUnpackLengths(t *testing.T) {
	good := packed(sector(5, 6, true, some(9)))
	kinds := [][]byte{
		good,
		make([]byte, size),
		packed(sector(5, 6, false, some(most))),
		append(bytes.Clone(good[:63]), 99),
		row(stamp.Stamp{Place: 6}, 0, nil),
		row(stamp.Stamp{Turn: 5}, 48, nil),
		bytes.Repeat([]byte{255}, size),
	}
	for _, n := range wrongLengths() {
		want := api.ErrShort
		if n > size {
			want = api.ErrLong
		}
		for _, b := range kinds {
			checkNoUnpack(t, cut(b, n), want)
		}
	}
	checkNoUnpack(t, nil, api.ErrShort)
	checkNoUnpack(t, []byte{}, api.ErrShort)
}

func TestUnpackWithMoreAround(t *testing.T) {
	good := packed(sector(5, 6, true, some(9)))
	checkNoUnpack(t, append(bytes.Clone(good), 0), api.ErrLong)
	checkNoUnpack(t, append([]byte{0}, good...), api.ErrLong)
	checkNoUnpack(t, good[:63], api.ErrShort)
	checkNoUnpack(t, good[1:], api.ErrShort)
	checkNoUnpack(t, good[:atEnd], api.ErrShort)
}

func TestUnpackNothing(t *testing.T) {
	checkNoUnpack(t, make([]byte, size), api.ErrNone)
	for at := range size {
		for bit := range 8 {
			b := make([]byte, size)
			b[at] = 1 << bit
			want := api.ErrTorn
			if at >= atMark && at < atEnd {
				want = api.ErrForm
			}
			checkNoUnpack(t, b, want)
		}
	}
}

// rows are sectors of the form, of many stamps and numbers of bytes.
func rows() [][]byte {
	var l [][]byte
	for _, s := range stamps() {
		for _, n := range []int{0, 1, 46, 47} {
			l = append(l, packed(sector(s.Turn, s.Place, n%2 == 0, some(n))))
			l = append(l, packed(sector(s.Turn, s.Place, n%2 == 1, make([]byte, n))))
		}
	}
	return l
}

func TestStampsDiffer(t *testing.T) {
	for _, b := range rows() {
		for i := range atMark {
			for bit := range 8 {
				for _, at := range []int{i, atEnd + i} {
					b[at] ^= 1 << bit
					checkNoUnpack(t, b, api.ErrTorn)
					b[at] ^= 1 << bit
				}
			}
		}
	}
}

func TestStampsDifferInAll(t *testing.T) {
	a, b := stamp.Stamp{Turn: 1, Place: 2}, stamp.Stamp{Turn: 2, Place: 1}
	x := append(row(a, 3, some(3))[:atEnd], row(b, 3, nil)[atEnd:]...)
	checkNoUnpack(t, x, api.ErrTorn)
	x = append(row(stamp.Stamp{}, 3, some(3))[:atEnd], row(b, 3, nil)[atEnd:]...)
	checkNoUnpack(t, x, api.ErrTorn)
	x = append(row(a, 3, some(3))[:atEnd], make([]byte, 8)...)
	checkNoUnpack(t, x, api.ErrTorn)
}

// What is torn, and isn't of the form either, is torn.
func TestTornAheadOfForm(t *testing.T) {
	forms := [][]byte{
		row(stamp.Stamp{}, 1, nil),
		row(stamp.Stamp{Place: 9}, 0, nil),
		row(stamp.Stamp{Turn: 9, Place: 9}, 48, nil),
		row(stamp.Stamp{Turn: 9, Place: 9}, 3, some(4)),
		row(stamp.Stamp{Turn: 9, Place: 9}, 255, some(most)),
	}
	for _, b := range forms {
		checkNoUnpack(t, b, api.ErrForm)
		for i := range atMark {
			for _, at := range []int{i, atEnd + i} {
				b[at] ^= 16
				checkNoUnpack(t, b, api.ErrTorn)
				b[at] ^= 16
			}
		}
	}
}

func TestTurnOfNothing(t *testing.T) {
	for _, place := range places() {
		if place != 0 {
			checkNoUnpack(t, row(stamp.Stamp{Place: place}, 0, nil), api.ErrForm)
		}
		for n := 1; n <= most; n++ {
			checkNoUnpack(t, row(stamp.Stamp{Place: place}, byte(n), some(n)), api.ErrForm)
			checkNoUnpack(t, row(stamp.Stamp{Place: place}, byte(n), nil), api.ErrForm)
			checkNoUnpack(t, row(stamp.Stamp{Place: place}, byte(n)|final, some(n)), api.ErrForm)
		}
		checkNoUnpack(t, row(stamp.Stamp{Place: place}, final, nil), api.ErrForm)
	}
}

// Each number of bytes that a byte may tell, over bytes of which all, or none, are 0.
func TestMarks(t *testing.T) {
	zeros, full := make([]byte, most), some(most)
	for mark := range 256 {
		n, last := mark%128, mark >= 128
		for _, s := range stamps() {
			if n > most {
				checkNoUnpack(t, row(s, byte(mark), zeros), api.ErrForm)
				checkNoUnpack(t, row(s, byte(mark), full), api.ErrForm)
				continue
			}
			checkUnpack(t, row(s, byte(mark), zeros), sector(s.Turn, s.Place, last, zeros[:n]), api.OK)
			checkUnpack(t, row(s, byte(mark), full[:n]), sector(s.Turn, s.Place, last, full[:n]), api.OK)
			if n < most {
				checkNoUnpack(t, row(s, byte(mark), full), api.ErrForm)
			}
		}
	}
}

// One byte that isn't 0, at each place of a sector that bears so many.
func TestOtherBytes(t *testing.T) {
	for n := range most + 1 {
		for at := range most {
			for bit := range 8 {
				data := some(n)
				b := packed(sector(3, 4, at%2 == 0, data))
				b[atData+at] ^= 1 << bit
				if at >= n {
					checkNoUnpack(t, b, api.ErrForm)
					continue
				}
				data[at] ^= 1 << bit
				checkUnpack(t, b, sector(3, 4, at%2 == 0, data), api.OK)
			}
		}
	}
}

func TestTurn(t *testing.T) {
	for _, b := range rows() {
		want := binary.BigEndian.Uint32(b)
		if got := stamp.Turn(b); got != want {
			t.Errorf("Turn(%v): %d, want %d", b, got, want)
		}
	}
}

func TestTurnOfOthers(t *testing.T) {
	good := packed(sector(7, 8, true, some(9)))
	others := map[string][]byte{
		"none":               nil,
		"a byte":             {7},
		"a stamp":            good[:atMark],
		"too short":          good[:63],
		"too long":           append(bytes.Clone(good), 0),
		"two":                append(bytes.Clone(good), good...),
		"all 0":              make([]byte, size),
		"torn at the turn":   append(bytes.Clone(good[:atEnd]), 0, 0, 0, 6, 0, 0, 0, 8),
		"torn at the place":  append(bytes.Clone(good[:atEnd]), 0, 0, 0, 7, 0, 0, 0, 9),
		"torn to nothing":    append(bytes.Clone(good[:atEnd]), make([]byte, 8)...),
		"turn 0":             row(stamp.Stamp{Place: 8}, 9, some(9)),
		"48 bytes":           row(stamp.Stamp{Turn: 7, Place: 8}, 48, nil),
		"others aren't 0":    row(stamp.Stamp{Turn: 7, Place: 8}, 9, some(10)),
		"last one isn't 0":   append(append(good[:atEnd-1:atEnd-1], 1), good[atEnd:]...),
		"127 bytes and last": row(stamp.Stamp{Turn: 7, Place: 8}, 255, nil),
	}
	for what, b := range others {
		if got := stamp.Turn(b); got != 0 {
			t.Errorf("Turn, %s: %d", what, got)
		}
	}
	if got := stamp.Turn(good); got != 7 {
		t.Errorf("Turn of a sector: %d", got)
	}
}

// Split.

func TestSplitKnown(t *testing.T) {
	data := some(200)
	for n, want := range map[int][]int{0: {0}, 1: {1}, 46: {46}, 47: {47}, 48: {47, 1}, 93: {47, 46}, 94: {47, 47}, 95: {47, 47, 1}, 141: {47, 47, 47}, 142: {47, 47, 47, 1}} {
		l, e := stamp.Split(9, 5, data[:n])
		if len(l) != len(want) || e != api.OK {
			t.Errorf("Split of %d bytes: %d sectors, error %d; want %d, 0", n, len(l), e, len(want))
			continue
		}
		from := 0
		for i, w := range want {
			if !same(l[i], sector(9, uint32(5+i), i == len(want)-1, data[from:from+w])) {
				t.Errorf("Split of %d bytes, sector %d: %v", n, i, l[i])
			}
			from += w
		}
	}
}

func TestSplit(t *testing.T) {
	for _, turn := range turns() {
		for _, place := range []uint32{0, 1, 255, 256, 65530, 1<<31 - 3, 1 << 31, top - 10} {
			for n := range 400 {
				checkSplit(t, turn, place, some(n))
			}
			checkSplit(t, turn, place, nil)
			checkSplit(t, turn, place, []byte{})
		}
	}
}

func TestSplitOfZeros(t *testing.T) {
	for n := range 200 {
		checkSplit(t, 1, 0, make([]byte, n))
	}
}

func TestSplitTurnNone(t *testing.T) {
	for _, place := range places() {
		for _, n := range []int{0, 1, 46, 47, 48, 94, 95, 1000} {
			checkNoSplit(t, 0, place, some(n), api.ErrArg)
		}
	}
	checkNoSplit(t, 0, 0, nil, api.ErrArg)
	checkNoSplit(t, 0, top, nil, api.ErrArg)
}

// Records of so many sectors at the last places.
func TestSplitLastPlaces(t *testing.T) {
	for sectors := 1; sectors <= 40; sectors++ {
		for _, n := range []int{most*(sectors-1) + 1, most*sectors - 1, most * sectors} {
			for _, turn := range []uint32{1, top} {
				for more := range uint32(3) {
					checkSplit(t, turn, top-uint32(sectors-1)-more, some(n))
				}
				for left := range uint32(sectors - 1) {
					checkNoSplit(t, turn, top-left, some(n), api.ErrRange)
				}
			}
		}
	}
	checkSplit(t, 1, top, nil)
	checkSplit(t, 1, top, some(47))
	checkNoSplit(t, 1, top, some(48), api.ErrRange)
	checkSplit(t, 1, top-1, some(94))
	checkNoSplit(t, 1, top-1, some(95), api.ErrRange)
}

func TestSplitLong(t *testing.T) {
	const sectors = 70000
	data := some(most * sectors)
	checkSplit(t, 2, 3, data)
	checkSplit(t, 2, top-sectors+1, data)
	checkSplit(t, 2, top-sectors, append(bytes.Clone(data), 1))
	checkNoSplit(t, 2, top-sectors+1, append(bytes.Clone(data), 1), api.ErrRange)
	checkNoSplit(t, 2, top-sectors+2, data, api.ErrRange)
	checkNoSplit(t, 2, top-65536, data, api.ErrRange)
	checkNoSplit(t, 2, top, data, api.ErrRange)
	checkNoSplit(t, 0, top, data, api.ErrArg)
	l, _ := stamp.Split(2, 3, data)
	checkJoin(t, "a long record", l, data)
}

// Join.

func TestJoinNone(t *testing.T) {
	checkNoJoin(t, "nil", nil, api.ErrShort)
	checkNoJoin(t, "empty", []stamp.Sector{}, api.ErrShort)
	checkNoJoin(t, "none of some", plainSplit(1, 0, some(99))[:0], api.ErrShort)
}

func TestJoinOne(t *testing.T) {
	for _, s := range stamps() {
		for n := range most + 1 {
			checkJoin(t, "one", []stamp.Sector{sector(s.Turn, s.Place, true, some(n))}, some(n))
			checkNoJoin(t, "one that isn't marked", []stamp.Sector{sector(s.Turn, s.Place, false, some(n))}, api.ErrShort)
		}
	}
	checkNoJoin(t, "a zero one", []stamp.Sector{{}}, api.ErrShort)
}

func TestJoinSeveral(t *testing.T) {
	for _, turn := range turns() {
		for _, place := range []uint32{0, 1, 254, 65534, 1<<31 - 2, 1 << 31, top - 9} {
			for n := range 400 {
				checkJoin(t, "several", plainSplit(turn, place, some(n)), some(n))
			}
		}
	}
}

// A record of which the first sector is left out can't be told from a whole one.
func TestJoinLeftOut(t *testing.T) {
	for sectors := 2; sectors <= 9; sectors++ {
		data := some(most*sectors - 7)
		for i := range sectors {
			l := slices.Delete(plainSplit(4, 20, data), i, i+1)
			switch i {
			case 0:
				checkJoin(t, "the first one left out", l, data[most:])
			case sectors - 1:
				checkNoJoin(t, "the last one left out", l, api.ErrShort)
			default:
				checkNoJoin(t, fmt.Sprint(i, "left out"), l, api.ErrOrder)
			}
		}
	}
}

func TestJoinTurnedRound(t *testing.T) {
	for sectors := 2; sectors <= 9; sectors++ {
		for j := range sectors {
			for i := range j {
				l := plainSplit(4, 20, some(most*sectors))
				l[i], l[j] = l[j], l[i]
				want := api.ErrOrder
				if j == sectors-1 {
					want = api.ErrShort
				}
				checkNoJoin(t, fmt.Sprint(i, j, "turned round"), l, want)
				l[i].Last, l[j].Last = l[j].Last, l[i].Last
				checkNoJoin(t, fmt.Sprint(i, j, "turned round, without their marks"), l, api.ErrOrder)
			}
		}
	}
}

func TestJoinTwice(t *testing.T) {
	for sectors := 1; sectors <= 9; sectors++ {
		for i := range sectors {
			l := plainSplit(4, 20, some(most*sectors))
			checkNoJoin(t, fmt.Sprint(i, "twice"), slices.Insert(l, i, l[i]), api.ErrOrder)
		}
		l := plainSplit(4, 20, some(most*sectors))
		checkNoJoin(t, "all twice", append(l, l...), api.ErrOrder)
	}
}

func TestJoinTwoTurns(t *testing.T) {
	for sectors := 2; sectors <= 5; sectors++ {
		for i := range sectors {
			for bit := range 32 {
				l := plainSplit(0x01020304, 20, some(most*sectors))
				l[i].Stamp.Turn ^= 1 << bit
				checkNoJoin(t, fmt.Sprint(i, "of another turn"), l, api.ErrOrder)
			}
			l := plainSplit(1, 20, some(most*sectors))
			l[i].Stamp.Turn = 0
			checkNoJoin(t, fmt.Sprint(i, "of the turn 0"), l, api.ErrOrder)
		}
	}
}

func TestJoinOtherPlaces(t *testing.T) {
	for sectors := 2; sectors <= 5; sectors++ {
		for i := range sectors {
			for bit := range 32 {
				l := plainSplit(3, 0x00070000, some(most*sectors))
				l[i].Stamp.Place ^= 1 << bit
				checkNoJoin(t, fmt.Sprint(i, "at another place"), l, api.ErrOrder)
			}
			l := plainSplit(3, 20, some(most*sectors))
			for j := i + 1; j < sectors; j++ {
				l[j].Stamp.Place++
			}
			if i < sectors-1 {
				checkNoJoin(t, fmt.Sprint("a gap behind", i), l, api.ErrOrder)
			}
		}
	}
}

func TestJoinSamePlaces(t *testing.T) {
	for _, place := range places() {
		l := plainSplit(3, 0, some(most*4))
		for i := range l {
			l[i].Stamp.Place = place
		}
		checkNoJoin(t, "all of one place", l, api.ErrOrder)
	}
}

func TestJoinFalling(t *testing.T) {
	l := plainSplit(3, 0, some(most*4))
	for i := range l {
		l[i].Stamp.Place = uint32(20 - i)
	}
	checkNoJoin(t, "falling places", l, api.ErrOrder)
}

func TestJoinUnmarked(t *testing.T) {
	for sectors := 1; sectors <= 9; sectors++ {
		l := plainSplit(4, 20, some(most*sectors))
		l[sectors-1].Last = false
		checkNoJoin(t, "no mark at the end", l, api.ErrShort)
		l[0].Last = true
		if sectors > 1 {
			checkNoJoin(t, "a mark at the beginning alone", l, api.ErrShort)
		}
	}
}

func TestJoinMarkedAhead(t *testing.T) {
	for sectors := 2; sectors <= 9; sectors++ {
		for i := range sectors - 1 {
			l := plainSplit(4, 20, some(most*sectors))
			l[i].Last = true
			checkNoJoin(t, fmt.Sprint(i, "marked"), l, api.ErrOrder)
		}
		l := plainSplit(4, 20, some(most*sectors))
		for i := range l {
			l[i].Last = true
		}
		checkNoJoin(t, "all marked", l, api.ErrOrder)
	}
	a, b := plainSplit(4, 20, some(99)), plainSplit(4, 23, some(50))
	checkNoJoin(t, "two records", append(a, b...), api.ErrOrder)
}

// Places go round at each sector of a record, and at none of them.
func TestJoinRound(t *testing.T) {
	for sectors := 1; sectors <= 9; sectors++ {
		for left := range 12 {
			l := plainSplit(4, top-uint32(left), some(most*sectors))
			if left >= sectors-1 {
				checkJoin(t, "at the last places", l, some(most*sectors))
				continue
			}
			checkNoJoin(t, fmt.Sprint("round behind", left), l, api.ErrOrder)
		}
	}
	two := []stamp.Sector{sector(1, top, false, some(most)), sector(1, 0, true, some(1))}
	checkNoJoin(t, "the last place, and 0", two, api.ErrOrder)
	// A place that went round is none of the next turn either.
	two[1].Stamp.Turn = 2
	checkNoJoin(t, "the last place, and 0 of the next turn", two, api.ErrOrder)
}

// That the last one isn't marked is told ahead of all else.
func TestJoinErrorsOrder(t *testing.T) {
	wrong := map[string]func(l []stamp.Sector){
		"turns":  func(l []stamp.Sector) { l[1].Stamp.Turn++ },
		"places": func(l []stamp.Sector) { l[1].Stamp.Place += 5 },
		"marks":  func(l []stamp.Sector) { l[1].Last = true },
		"first":  func(l []stamp.Sector) { l[0].Last = true },
		"end":    func(l []stamp.Sector) { l[3].Stamp.Place = top },
		"round":  func(l []stamp.Sector) { l[0].Stamp.Place = top },
	}
	for what, do := range wrong {
		l := plainSplit(4, 20, some(most*4))
		do(l)
		checkNoJoin(t, what, l, api.ErrOrder)
		l[3].Last = false
		checkNoJoin(t, what+", not marked", l, api.ErrShort)
	}
}

// The chapter names no error of Join for a sector that Pack wouldn't take, or for one ahead that isn't full.
func TestJoinOthers(t *testing.T) {
	checkJoin(t, "turn 0", []stamp.Sector{sector(0, 5, true, some(9))}, some(9))
	l := plainSplit(1, 7, some(100))
	for i := range l {
		l[i].Stamp.Turn = 0
	}
	checkJoin(t, "turn 0, several", l, some(100))
	l[2].Stamp.Place++
	checkNoJoin(t, "turn 0, a gap", l, api.ErrOrder)
	for _, n := range overlong() {
		checkJoin(t, "long", []stamp.Sector{sector(1, 5, true, some(n))}, some(n))
		two := []stamp.Sector{sector(1, 5, false, some(n)), sector(1, 6, true, some(n+1))}
		checkJoin(t, "two long", two, append(some(n), some(n+1)...))
		two[1].Last = false
		checkNoJoin(t, "two long, not marked", two, api.ErrShort)
	}
	short := []stamp.Sector{sector(1, 5, false, nil), sector(1, 6, false, some(3)), sector(1, 7, false, some(46)), sector(1, 8, true, nil)}
	checkJoin(t, "not full", short, append(some(3), some(46)...))
	checkJoin(t, "of nothing", []stamp.Sector{sector(1, 5, false, nil), sector(1, 6, true, nil)}, nil)
	checkJoin(t, "a zero one that is marked", []stamp.Sector{{Last: true}}, nil)
}

// What is packed is unpacked.

func TestPackedIsUnpacked(t *testing.T) {
	for n := range 500 {
		data := some(n)
		l, e := stamp.Split(77, uint32(n), data)
		checkErr(t, "Split", e, api.OK)
		var back []stamp.Sector
		for _, s := range l {
			b, e := stamp.Pack(s)
			checkErr(t, "Pack", e, api.OK)
			u, e := stamp.Unpack(b)
			checkErr(t, "Unpack", e, api.OK)
			back = append(back, u)
		}
		checkJoin(t, "unpacked", back, data)
	}
}

// chanceBytes is a sector with some bytes written over, so that each kind of fault comes.
func chanceBytes(r *rand.Rand) []byte {
	few := []uint32{0, 1, 2, 256, top}
	data := make([]byte, r.Intn(most+1))
	if r.Intn(2) == 0 {
		r.Read(data)
	}
	b := packed(sector(few[r.Intn(len(few))], few[r.Intn(len(few))], r.Intn(2) == 0, data))
	for range r.Intn(4) {
		b[r.Intn(size)] = []byte{0, 1, 47, 48, 128, 175, 176, 255}[r.Intn(8)]
	}
	return b
}

func TestChance(t *testing.T) {
	r := rand.New(rand.NewSource(9))
	told := map[api.Errno]int{}
	for range 200000 {
		b := chanceBytes(r)
		want, e := plainUnpack(b)
		checkUnpack(t, b, want, e)
		if e == api.OK {
			checkPack(t, want, b)
		}
		told[e]++
	}
	for _, e := range []api.Errno{api.OK, api.ErrNone, api.ErrTorn, api.ErrForm} {
		if told[e] == 0 {
			t.Errorf("error %d: never", e)
		}
	}
}

// Torn sectors.

// checkCuts holds what is told of each cut of a sector over another one (nil: nothing): the one, the other, or that it is torn.
func checkCuts(t *testing.T, old, new *stamp.Sector) {
	t.Helper()
	bytesOf := func(s *stamp.Sector) []byte {
		if s == nil {
			return make([]byte, size)
		}
		return packed(*s)
	}
	check := func(b []byte, s *stamp.Sector) {
		t.Helper()
		if s == nil {
			checkNoUnpack(t, b, api.ErrNone)
			return
		}
		checkUnpack(t, b, *s, api.OK)
	}
	was, is := bytesOf(old), bytesOf(new)
	for n := range size + 1 {
		b := append(bytes.Clone(is[:n]), was[n:]...)
		switch {
		case bytes.Equal(b, was):
			check(b, old)
		case bytes.Equal(b, is):
			check(b, new)
		default:
			checkNoUnpack(t, b, api.ErrTorn)
		}
	}
}

// contents are sectors of a stamp.
func contents(s stamp.Stamp) []stamp.Sector {
	return []stamp.Sector{
		sector(s.Turn, s.Place, true, nil),
		sector(s.Turn, s.Place, false, some(20)),
		sector(s.Turn, s.Place, true, make([]byte, 30)),
		sector(s.Turn, s.Place, true, some(most)),
	}
}

// edges are stamps that differ in their first bytes, their last ones, and in all.
func edges() []stamp.Stamp {
	var l []stamp.Stamp
	for _, turn := range []uint32{1, 2, 256, 1 << 24, 0x01000001, 0x01020304, top} {
		for _, place := range []uint32{0, 1, 256, 1 << 24, 0xa1b2c3d4, top} {
			l = append(l, stamp.Stamp{Turn: turn, Place: place})
		}
	}
	return l
}

func TestCutsOverOther(t *testing.T) {
	for _, a := range edges() {
		for _, b := range edges() {
			if a == b {
				continue
			}
			for _, old := range contents(a) {
				for _, new := range contents(b) {
					checkCuts(t, &old, &new)
				}
			}
		}
	}
}

// Stamps that differ in one bit.
func TestCutsOverNear(t *testing.T) {
	for _, a := range stamps() {
		for bit := range 32 {
			for _, b := range []stamp.Stamp{{Turn: a.Turn ^ 1<<bit, Place: a.Place}, {Turn: a.Turn, Place: a.Place ^ 1<<bit}} {
				if b.Turn == 0 {
					continue
				}
				old, new := sector(a.Turn, a.Place, true, some(30)), sector(b.Turn, b.Place, false, some(47))
				checkCuts(t, &old, &new)
			}
		}
	}
}

func TestCutsOverNothing(t *testing.T) {
	for _, s := range stamps() {
		for _, x := range contents(s) {
			checkCuts(t, nil, &x)
		}
	}
}

func TestCutsOfNothing(t *testing.T) {
	for _, s := range stamps() {
		for _, x := range contents(s) {
			checkCuts(t, &x, nil)
		}
	}
}

// deviceCut is what a device tells of a sector that is torn behind so many bytes.
func deviceCut(t *testing.T, old, new []byte, n int) []byte {
	t.Helper()
	d, e := device.New(1)
	checkErr(t, "New", e, api.OK)
	checkErr(t, "Write", d.Write(0, old), api.OK)
	checkErr(t, "Flush", d.Flush(), api.OK)
	checkErr(t, "Write", d.Write(0, new), api.OK)
	d.Crash(1, 0, n)
	d.Up()
	b, e := d.Read(0, 1)
	checkErr(t, "Read", e, api.OK)
	return b
}

func TestCutsOnDevice(t *testing.T) {
	old, new := sector(1, 5, true, some(9)), sector(2, 5, false, some(most))
	was, e := stamp.Pack(old)
	checkErr(t, "Pack", e, api.OK)
	is, e := stamp.Pack(new)
	checkErr(t, "Pack", e, api.OK)
	for n := range size + 1 {
		b := deviceCut(t, was, is, n)
		switch {
		case n < 4: // the turns differ in their last byte
			checkUnpack(t, b, old, api.OK)
		case n < 60: // from there on the places are the same
			checkNoUnpack(t, b, api.ErrTorn)
		default:
			checkUnpack(t, b, new, api.OK)
		}
	}
}

// Memory.

// roomy is a copy of bytes with room behind them, and all of it.
func roomy(b []byte) (part, whole []byte) {
	whole = bytes.Repeat([]byte{0xee}, len(b)+200)
	copy(whole[20:], b)
	return whole[20 : 20+len(b)], whole
}

// checkStays holds that a call leaves bytes, and the room around them, as they are.
func checkStays(t *testing.T, what string, b []byte, call func(b []byte)) {
	t.Helper()
	part, whole := roomy(b)
	was := bytes.Clone(whole)
	call(part)
	if !bytes.Equal(whole, was) {
		t.Errorf("%s of %d bytes changes what is handed in", what, len(b))
	}
}

func TestHandedInStays(t *testing.T) {
	for n := range 150 {
		data := some(n)
		for _, turn := range []uint32{0, 1} {
			for _, last := range []bool{false, true} {
				checkStays(t, "Pack", data, func(b []byte) { stamp.Pack(sector(turn, 2, last, b)) })
				checkStays(t, "Join", data, func(b []byte) { stamp.Join([]stamp.Sector{sector(turn, 2, last, b)}) })
			}
			for _, place := range []uint32{0, top} {
				checkStays(t, "Split", data, func(b []byte) { stamp.Split(turn, place, b) })
			}
		}
		checkStays(t, "Unpack", data, func(b []byte) { stamp.Unpack(b) })
		checkStays(t, "Turn", data, func(b []byte) { stamp.Turn(b) })
	}
	for _, b := range append(rows(), make([]byte, size), row(stamp.Stamp{Turn: 1}, 3, some(4))) {
		checkStays(t, "Unpack", b, func(b []byte) { stamp.Unpack(b) })
		checkStays(t, "Turn", b, func(b []byte) { stamp.Turn(b) })
	}
}

// roomySectors is sectors whose bytes, and whose row, have room behind them; and all of that room.
func roomySectors(l []stamp.Sector) (part, whole []stamp.Sector, rooms [][]byte) {
	whole = slices.Repeat([]stamp.Sector{sector(98, 99, true, []byte("behind"))}, len(l)+3)
	for i, s := range l {
		part, room := roomy(s.Data)
		rooms = append(rooms, room)
		s.Data = part
		whole[i] = s
	}
	return whole[:len(l)], whole, rooms
}

// joins are rows of sectors that Join takes, and some that it doesn't.
func joins() [][]stamp.Sector {
	var l [][]stamp.Sector
	for _, n := range []int{0, 1, 46, 47, 48, 94, 95, 500} {
		l = append(l, plainSplit(4, 20, some(n)), plainSplit(4, top, some(n)))
		unmarked := plainSplit(4, 20, some(n))
		unmarked[len(unmarked)-1].Last = false
		l = append(l, unmarked, slices.Repeat(plainSplit(4, 20, some(n)), 2))
	}
	return l
}

func TestSectorsHandedInStay(t *testing.T) {
	for _, l := range joins() {
		part, whole, rooms := roomySectors(l)
		heads, was := slices.Clone(whole), [][]byte{}
		for _, r := range rooms {
			was = append(was, bytes.Clone(r))
		}
		stamp.Join(part)
		if !slices.EqualFunc(rooms, was, bytes.Equal) || !slices.EqualFunc(whole, heads, same) {
			t.Errorf("Join of %d sectors changes what is handed in", len(l))
		}
	}
}

// wipe writes over bytes, and all their room.
func wipe(b []byte) {
	b = b[:cap(b)]
	for i := range b {
		b[i] = 0xdd
	}
}

func TestHandedInIsNotKept(t *testing.T) {
	for n := range 150 {
		data := some(n)
		l, e := stamp.Split(4, 20, data)
		checkErr(t, "Split", e, api.OK)
		wipe(data)
		if !slices.EqualFunc(l, plainSplit(4, 20, some(n)), same) {
			t.Errorf("Split of %d bytes keeps them", n)
		}
	}
	for n := range most + 1 {
		data := some(n)
		want := sector(4, 20, true, some(n))
		b, _ := stamp.Pack(sector(4, 20, true, data))
		one, _ := stamp.Join([]stamp.Sector{sector(4, 20, true, data)})
		wipe(data)
		if !bytes.Equal(b, packed(want)) {
			t.Errorf("Pack of %d bytes keeps them", n)
		}
		if !bytes.Equal(one, some(n)) {
			t.Errorf("Join of a sector of %d bytes keeps them", n)
		}
		u, _ := stamp.Unpack(b)
		wipe(b)
		if !same(u, want) {
			t.Errorf("Unpack of a sector of %d bytes keeps them", n)
		}
	}
}

func TestSectorsHandedInAreNotKept(t *testing.T) {
	for n := range 300 {
		l, _ := stamp.Split(4, 20, some(n))
		got, e := stamp.Join(l)
		checkErr(t, "Join", e, api.OK)
		for i := range l {
			wipe(l[i].Data)
			l[i] = stamp.Sector{}
		}
		if !bytes.Equal(got, some(n)) {
			t.Errorf("Join of the sectors of %d bytes keeps them", n)
		}
	}
}

// spoil adds to bytes, and writes over them and all their room.
func spoil(b []byte) {
	wipe(append(b, bytes.Repeat([]byte{0xcc}, 100)...))
	for i := range 60 {
		_ = append(b, some(i)...)
	}
	wipe(b)
}

func TestAnswersApart(t *testing.T) {
	for n := range most + 1 {
		s := sector(4, 20, true, some(n))
		a, _ := stamp.Pack(s)
		b, _ := stamp.Pack(s)
		spoil(a)
		checkUnpack(t, b, s, api.OK)
		u, _ := stamp.Unpack(b)
		v, _ := stamp.Unpack(b)
		spoil(u.Data)
		if !same(v, s) || !bytes.Equal(b, packed(s)) {
			t.Errorf("Unpack of a sector of %d bytes: answers that aren't apart", n)
		}
		c, _ := stamp.Pack(s)
		if !bytes.Equal(c, packed(s)) {
			t.Errorf("Pack of %d bytes: another answer behind a change of the first one", n)
		}
	}
}

func TestJoinedApart(t *testing.T) {
	for _, n := range []int{0, 1, 46, 47, 48, 94, 95, 500} {
		l, _ := stamp.Split(4, 20, some(n))
		a, _ := stamp.Join(l)
		b, _ := stamp.Join(l)
		spoil(a)
		if !bytes.Equal(b, some(n)) || !slices.EqualFunc(l, plainSplit(4, 20, some(n)), same) {
			t.Errorf("Join of the sectors of %d bytes: answers that aren't apart", n)
		}
	}
}

// Of one answer's sectors one is changed, and added to.
func TestPiecesApart(t *testing.T) {
	for _, n := range []int{0, 1, 46, 47, 48, 94, 95, 141, 142, 500} {
		want := plainSplit(4, 20, some(n))
		for i := range want {
			l, _ := stamp.Split(4, 20, some(n))
			other, _ := stamp.Split(4, 20, some(n))
			spoil(l[i].Data)
			for j := range want {
				if j != i && !same(l[j], want[j]) {
					t.Errorf("Split of %d bytes: sector %d isn't apart from %d", n, j, i)
				}
			}
			if !slices.EqualFunc(other, want, same) {
				t.Errorf("Split of %d bytes: two answers aren't apart", n)
			}
		}
	}
}

func TestRowsApart(t *testing.T) {
	for _, n := range []int{0, 47, 48, 500} {
		want := plainSplit(4, 20, some(n))
		a, _ := stamp.Split(4, 20, some(n))
		b, _ := stamp.Split(4, 20, some(n))
		_ = append(a, stamp.Sector{Last: true}, stamp.Sector{})
		clear(a)
		if !slices.EqualFunc(b, want, same) {
			t.Errorf("Split of %d bytes: two rows aren't apart", n)
		}
	}
}
