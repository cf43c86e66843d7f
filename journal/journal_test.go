package journal_test

import (
	"bytes"
	"encoding/binary"
	"fmt"
	"math"
	"math/rand"
	"slices"
	"strings"
	"testing"

	"catacomb/api"
	"catacomb/device"
	"catacomb/journal"
)

const (
	size  = 64             // of a sector
	most  = 47             // bytes that it bears
	final = 128            // more in its mark, if it is the last one of its record
	top   = math.MaxUint32 // the greatest turn
	all   = ^uint64(0)     // a crash's keep: every writing that waits
	no    = -1             // a crash's torn: no writing is
)

// some is so many bytes, none of them 0, the same ones each time, and other ones of another seed.
func some(seed, n int) string {
	b := make([]byte, n)
	for i := range b {
		b[i] = byte(1 + (i*89+n*31+seed*57)%255)
	}
	return string(b)
}

// stampText is a turn and a place as bytes.
func stampText(turn, place uint32) string {
	return string(binary.BigEndian.AppendUint32(binary.BigEndian.AppendUint32(nil, turn), place))
}

// filled is a text with bytes 0 behind it, up to so many.
func filled(s string, n int) string { return s + strings.Repeat("\x00", n-len(s)) }

// row is a sector's bytes as chapter 9 tells them.
func row(turn, place uint32, last bool, borne string) string {
	mark := byte(len(borne))
	if last {
		mark |= final
	}
	s := stampText(turn, place)
	return s + string([]byte{mark}) + filled(borne, most) + s
}

// rows is a record's sectors, one behind the other.
func rows(turn, place uint32, data string) string {
	s := ""
	for ; len(data) > most; place++ {
		s += row(turn, place, false, data[:most])
		data = data[most:]
	}
	return s + row(turn, place, true, data)
}

// lying is the sectors of some records, up to so many, the rest 0.
func lying(n int, turn uint32, records ...string) string {
	s := ""
	for _, r := range records {
		s += rows(turn, uint32(len(s)/size), r)
	}
	return filled(s, n*size)
}

// stamped: is it a stamped sector's text, of whatever turn and place?
func stamped(s string) bool {
	n := int(s[8] & 127)
	return s[:8] == s[56:] && s[:4] != "\x00\x00\x00\x00" && n <= most && strings.Trim(s[9+n:56], "\x00") == ""
}

// plainRead tells a journal's records and its turn, by the texts of its sectors.
func plainRead(b string) ([]string, uint32) {
	if !stamped(b[:size]) {
		return nil, 0
	}
	turn := binary.BigEndian.Uint32([]byte(b))
	var told []string
	begun := ""
	for i := range len(b) / size {
		s := b[i*size : (i+1)*size]
		if !stamped(s) || s[:8] != stampText(turn, uint32(i)) {
			break
		}
		begun += s[9 : 9+int(s[8]&127)]
		if s[8] >= final {
			told = append(told, begun)
			begun = ""
		}
	}
	return told, turn
}

// plainCost is how many sectors rows has.
func plainCost(data string) int { return len(rows(1, 0, data)) / size }

// texts is a list of rows as texts.
func texts(l [][]byte) []string {
	var all []string
	for _, b := range l {
		all = append(all, string(b))
	}
	return all
}

// short tells texts by their lengths and beginnings.
func short(l []string) string {
	s := fmt.Sprintf("%d records:", len(l))
	for _, x := range l {
		s += fmt.Sprintf(" %.8q(%d)", x, len(x))
	}
	return s
}

func checkErr(t *testing.T, what string, got, want api.Errno) {
	t.Helper()
	if got != want {
		t.Errorf("%s: error %d, want %d", what, got, want)
	}
}

// made is a new device.
func made(t *testing.T, n int) *device.Device {
	t.Helper()
	d, e := device.New(n)
	if e != api.OK {
		t.Fatalf("device.New(%d): error %d", n, e)
	}
	return d
}

// holding is a device of such bytes, that lie there.
func holding(t *testing.T, b string) *device.Device {
	t.Helper()
	d := made(t, len(b)/size)
	lay(t, d, 0, b)
	return d
}

// lay writes sectors from one on, and flushes them.
func lay(t *testing.T, d *device.Device, from int, b string) {
	t.Helper()
	for i := range len(b) / size {
		checkErr(t, "device's Write", d.Write(from+i, []byte(b[i*size:(i+1)*size])), api.OK)
	}
	checkErr(t, "device's Flush", d.Flush(), api.OK)
}

// begun is a new journal.
func begun(t *testing.T, d *device.Device, from, n int, turn uint32) *journal.Journal {
	t.Helper()
	j, e := journal.New(d, from, n, turn)
	if j == nil || e != api.OK {
		t.Fatalf("New(%d, %d, %d): %v, error %d", from, n, turn, j, e)
	}
	return j
}

func mustWrite(t *testing.T, j *journal.Journal, data string) {
	t.Helper()
	checkErr(t, fmt.Sprintf("Write of %d bytes", len(data)), j.Write([]byte(data)), api.OK)
}

func mustCommit(t *testing.T, j *journal.Journal, data string) {
	t.Helper()
	checkErr(t, fmt.Sprintf("Commit of %d bytes", len(data)), j.Commit([]byte(data)), api.OK)
}

// checkJournal holds what a journal tells of itself, of so many sectors, so many of them taken.
func checkJournal(t *testing.T, j *journal.Journal, n, taken int, turn uint32) {
	t.Helper()
	if got := j.Next(); got != taken {
		t.Errorf("Next: %d, want %d", got, taken)
	}
	if got := j.Room(); got != (n-taken)*most {
		t.Errorf("Room: %d, want %d", got, (n-taken)*most)
	}
	if got := j.Turn(); got != turn {
		t.Errorf("Turn: %d, want %d", got, turn)
	}
}

// checkRead holds the records that are told, and their turn.
func checkRead(t *testing.T, d *device.Device, from, n int, turn uint32, want ...string) {
	t.Helper()
	l, got, e := journal.Read(d, from, n)
	if !slices.Equal(texts(l), want) || got != turn || e != api.OK {
		t.Errorf("Read(%d, %d): %s, turn %d, error %d; want %s, turn %d, 0", from, n, short(texts(l)), got, e, short(want), turn)
	}
}

func checkNoRead(t *testing.T, d *device.Device, from, n int, want api.Errno) {
	t.Helper()
	if l, turn, e := journal.Read(d, from, n); len(l) != 0 || turn != 0 || e != want {
		t.Errorf("Read(%d, %d): %d records, turn %d, error %d; want none, 0, %d", from, n, len(l), turn, e, want)
	}
}

// checkTold holds what a device's sectors are, as they are read.
func checkTold(t *testing.T, d *device.Device, want string) {
	t.Helper()
	got, e := d.Read(0, d.Len())
	if e != api.OK {
		t.Errorf("device's Read: error %d", e)
		return
	}
	checkSectors(t, "read", string(got), want)
}

// checkImage holds what lies on a device, without what waits.
func checkImage(t *testing.T, d *device.Device, want string) {
	t.Helper()
	checkSectors(t, "image", string(d.Image()), want)
}

func checkSectors(t *testing.T, what, got, want string) {
	t.Helper()
	if len(got) != len(want) {
		t.Errorf("%s: %d bytes, want %d", what, len(got), len(want))
		return
	}
	for at := 0; at < len(got); at += size {
		if got[at:at+size] != want[at:at+size] {
			t.Errorf("%s: sector %d is %q, want %q", what, at/size, got[at:at+size], want[at:at+size])
		}
	}
}

// waits is the sectors of the writings that wait.
func waits(d *device.Device) []int {
	var l []int
	for _, at := range d.Waits() {
		l = append(l, at)
	}
	return l
}

// checkWaits holds that so many sectors from one on wait, in their order, and no others.
func checkWaits(t *testing.T, d *device.Device, from, n int) {
	t.Helper()
	var want []int
	for i := range n {
		want = append(want, from+i)
	}
	if got := waits(d); !slices.Equal(got, want) {
		t.Errorf("waiting: %v, want %v", got, want)
	}
}

// P10.1: Commit a, Write b, a crash that keeps nothing: Read tells a.
func TestExample(t *testing.T) {
	d := made(t, 4)
	j := begun(t, d, 0, 4, 1)
	mustCommit(t, j, "a")
	mustWrite(t, j, "b")
	d.Crash(0, no, 0)
	d.Up()
	checkRead(t, d, 0, 4, 1, "a")
}

// lengths are those of records around one, two and three sectors.
func lengths() []int {
	return []int{0, 1, 2, 45, 46, 47, 48, 49, 93, 94, 95, 140, 141, 142}
}

// turns are those of journals.
func turns() []uint32 { return []uint32{1, 2, 255, 256, 1 << 16, 1 << 31, top - 1, top} }

// parts are ranges that a device of so many sectors has.
func parts(n int) [][2]int {
	return [][2]int{{0, 1}, {0, 2}, {0, n - 1}, {0, n}, {1, 1}, {1, n - 1}, {2, n - 4}, {n / 2, n / 2}, {n - 2, 1}, {n - 2, 2}, {n - 1, 1}}
}

// wrong are ranges that it hasn't, or that are of no sector.
func wrong(n int) [][2]int {
	const last, low = math.MaxInt, math.MinInt
	return [][2]int{
		{0, 0}, {1, 0}, {n - 1, 0}, {n, 0}, {n + 1, 0}, {last, 0}, {-1, 0}, {low, 0},
		{0, n + 1}, {1, n}, {n - 1, 2}, {n, 1}, {n + 1, 1}, {n + 1, -1}, {2 * n, 1}, {8192, 1}, {0, 8192},
		{-1, 1}, {-1, 2}, {-1, n}, {-n, n}, {-n, 2 * n}, {low, 1}, {low, last},
		{0, -1}, {1, -1}, {n, -1}, {n, -n}, {0, -n}, {0, low}, {n, low}, {-1, -1}, {low, low},
		{last, 1}, {last, 2}, {1, last}, {2, last}, {n, last}, {last, last}, {last, low}, {low + n, low}, {last - n + 1, n}, {last - n + 2, n},
		{1 << 32, 1}, {1, 1 << 32}, {1<<32 + 1, 1}, {0, 1<<32 + 1}, {1 << 62, 1 << 62}, {1 << 62, 3 << 61},
	}
}

// P10.1: a new journal has no records; nothing is written.
func TestNew(t *testing.T) {
	const n = 10
	for _, p := range parts(n) {
		for _, turn := range turns() {
			d := holding(t, lying(n, 7, some(1, 9*most)))
			old := string(d.Image())
			j := begun(t, d, p[0], p[1], turn)
			checkJournal(t, j, p[1], 0, turn)
			checkWaits(t, d, 0, 0)
			checkImage(t, d, old)
			checkTold(t, d, old)
		}
	}
}

// P10.1: New asks nothing of a device but how many sectors it has.
func TestNewOnOneDown(t *testing.T) {
	d := made(t, 4)
	d.Crash(0, no, 0)
	j := begun(t, d, 1, 3, 5)
	checkJournal(t, j, 3, 0, 5)
	checkErr(t, "Commit", j.Commit(nil), api.ErrDown)
	d.Up()
	mustCommit(t, j, "a")
	checkRead(t, d, 1, 3, 5, "a")
}

func checkNoNew(t *testing.T, d *device.Device, from, n int, turn uint32) {
	t.Helper()
	if j, e := journal.New(d, from, n, turn); j != nil || e != api.ErrArg {
		t.Errorf("New(%d, %d, %d): %v, error %d; want none, ErrArg", from, n, turn, j, e)
	}
}

// P10.1: what no journal may be; what nothing may be read of, and nothing wiped of.
func TestWrongRanges(t *testing.T) {
	for _, n := range []int{1, 2, 10} {
		for _, down := range []bool{false, true} {
			d := holding(t, lying(n, 7, some(1, n*most)))
			old := string(d.Image())
			if down {
				d.Crash(0, no, 0)
			}
			for _, p := range wrong(n) {
				checkNoNew(t, d, p[0], p[1], 1)
				checkNoRead(t, d, p[0], p[1], api.ErrArg)
				checkErr(t, fmt.Sprintf("Wipe(%d, %d)", p[0], p[1]), journal.Wipe(d, p[0], p[1]), api.ErrArg)
			}
			checkWaits(t, d, 0, 0)
			checkImage(t, d, old)
		}
	}
}

// P10.1: the turn 0 is none; of a device that isn't there nothing may be asked.
func TestWrongTurnAndDevice(t *testing.T) {
	d := made(t, 10)
	for _, p := range slices.Concat(parts(10), wrong(10)) {
		checkNoNew(t, d, p[0], p[1], 0)
		for _, turn := range []uint32{0, 1, top} {
			checkNoNew(t, nil, p[0], p[1], turn)
		}
		checkNoRead(t, nil, p[0], p[1], api.ErrArg)
		checkErr(t, "Wipe", journal.Wipe(nil, p[0], p[1]), api.ErrArg)
	}
}

// puts are both ways to write a record, and whether it is flushed.
func puts() map[bool]func(j *journal.Journal, data []byte) api.Errno {
	return map[bool]func(j *journal.Journal, data []byte) api.Errno{
		false: (*journal.Journal).Write,
		true:  (*journal.Journal).Commit,
	}
}

// P10.1: a record's sectors, at their places, and nothing else; what is committed doesn't wait.
func TestOneRecord(t *testing.T) {
	const n = 10
	for flushed, put := range puts() {
		for _, from := range []int{0, 1, 5} {
			for _, length := range lengths() {
				data := some(1, length)
				d := holding(t, strings.Repeat("o", n*size))
				old := string(d.Image())
				j := begun(t, d, from, 5, 0x01020304)
				checkErr(t, fmt.Sprintf("a record of %d bytes", length), put(j, []byte(data)), api.OK)
				taken := rows(0x01020304, 0, data)
				want := old[:from*size] + taken + old[from*size+len(taken):]
				checkTold(t, d, want)
				checkJournal(t, j, 5, len(taken)/size, 0x01020304)
				if flushed {
					checkWaits(t, d, 0, 0)
					checkImage(t, d, want)
				} else {
					checkWaits(t, d, from, len(taken)/size)
					checkImage(t, d, old)
				}
				checkRead(t, d, from, 5, 0x01020304, data)
			}
		}
	}
}

// P10.1: records of bytes 0, and of bytes as a sector has them, are as any other ones.
func TestOddRecords(t *testing.T) {
	for _, data := range []string{
		"\x00", strings.Repeat("\x00", 46), strings.Repeat("\x00", 47), strings.Repeat("\x00", 48), strings.Repeat("\x00", 200),
		strings.Repeat("\xff", 47), strings.Repeat("\xff", 150), row(9, 0, true, "inner"), row(9, 1, true, "inner"), rows(9, 0, some(3, 100)),
		"a" + strings.Repeat("\x00", 93), strings.Repeat("\x00", 94) + "a",
	} {
		d := made(t, 9)
		j := begun(t, d, 1, 7, 9)
		mustCommit(t, j, data)
		mustCommit(t, j, "")
		checkRead(t, d, 1, 7, 9, data, "")
		checkImage(t, d, filled("", size)+lying(8, 9, data, ""))
	}
}

// P10.1: records stand one behind the other, with places that go on.
func TestSeveralRecords(t *testing.T) {
	const n, turn = 64, 0x01020304
	for flushed, put := range puts() {
		d := made(t, n+2)
		j := begun(t, d, 1, n, turn)
		var told []string
		taken := 0
		for i, length := range slices.Concat(lengths(), lengths()) {
			data := some(i, length)
			told = append(told, data)
			checkErr(t, "a record", put(j, []byte(data)), api.OK)
			lie := lying(n, turn, told...)
			taken += plainCost(data)
			checkJournal(t, j, n, taken, turn)
			checkTold(t, d, filled("", size)+lie+filled("", size))
			checkRead(t, d, 1, n, turn, told...)
			if !flushed {
				checkWaits(t, d, 1, taken)
			}
		}
	}
}

// P10.1: Commit flushes what was written ahead too, also what isn't the journal's.
func TestCommitFlushesAll(t *testing.T) {
	d := made(t, 6)
	j := begun(t, d, 1, 5, 3)
	checkErr(t, "device's Write", d.Write(0, []byte("other")), api.OK)
	mustWrite(t, j, some(1, 60))
	checkWaits(t, d, 0, 3)
	checkImage(t, d, filled("", 6*size))
	mustCommit(t, j, "c")
	checkWaits(t, d, 0, 0)
	checkImage(t, d, filled("other", size)+lying(5, 3, some(1, 60), "c"))
}

// P10.1: what just goes in, what is a byte too long, and what comes behind a full journal.
func TestFull(t *testing.T) {
	for _, put := range puts() {
		for n := 1; n <= 6; n++ {
			for taken := range n {
				d := holding(t, strings.Repeat("o", 8*size))
				j := begun(t, d, 1, n, 3)
				var told []string
				if taken > 0 {
					told = []string{some(1, taken*most)}
					mustCommit(t, j, told[0])
				}
				room := (n - taken) * most
				checkFull(t, d, j, n, taken, put, room+1, room+2, room+most, room+most+1, 10*room, 1<<20)
				checkRead(t, d, 1, n, firstTurn(told), told...)
				last := some(2, room)
				checkErr(t, "the record that just goes in", put(j, []byte(last)), api.OK)
				checkErr(t, "device's Flush", d.Flush(), api.OK)
				told = append(told, last)
				checkRead(t, d, 1, n, 3, told...)
				checkFull(t, d, j, n, n, put, 0, 1, 46, 47, 48, 1000)
				checkRead(t, d, 1, n, 3, told...)
				checkImage(t, d, strings.Repeat("o", size)+lying(n, 3, told...)+strings.Repeat("o", (7-n)*size))
			}
		}
	}
}

// firstTurn is the turn 3, if there are records.
func firstTurn(told []string) uint32 {
	if len(told) == 0 {
		return 0
	}
	return 3
}

// checkFull holds that records of such lengths don't go in, and that nothing is written, nor flushed.
func checkFull(t *testing.T, d *device.Device, j *journal.Journal, n, taken int, put func(*journal.Journal, []byte) api.Errno, lengths ...int) {
	t.Helper()
	old := string(d.Image())
	checkErr(t, "device's Write", d.Write(7, []byte("waits")), api.OK)
	for _, length := range lengths {
		checkErr(t, fmt.Sprintf("a record of %d bytes at %d of %d", length, taken, n), put(j, make([]byte, length)), api.ErrFull)
		checkJournal(t, j, n, taken, 3)
		checkWaits(t, d, 7, 1)
		checkImage(t, d, old)
	}
	checkErr(t, "device's Write", d.Write(7, []byte(old[7*size:])), api.OK)
	checkErr(t, "device's Flush", d.Flush(), api.OK)
}

// P10.1: behind one that didn't go in a shorter one does.
func TestShorterBehindFull(t *testing.T) {
	d := made(t, 3)
	j := begun(t, d, 0, 3, 1)
	mustWrite(t, j, "first")
	checkErr(t, "Write", j.Write(make([]byte, 95)), api.ErrFull)
	checkErr(t, "Commit", j.Commit(make([]byte, 95)), api.ErrFull)
	checkWaits(t, d, 0, 1)
	mustWrite(t, j, some(1, 47))
	mustCommit(t, j, "")
	checkRead(t, d, 0, 3, 1, "first", some(1, 47), "")
	checkErr(t, "Write", j.Write(nil), api.ErrFull)
	checkErr(t, "Commit", j.Commit(nil), api.ErrFull)
}

// P10.1: the greatest journal that there may be, of one record, and of one a sector.
func TestGreatest(t *testing.T) {
	const n = api.MaxSectors
	d := made(t, n)
	j := begun(t, d, 0, n, top)
	checkErr(t, "Commit", j.Commit(make([]byte, n*most+1)), api.ErrFull)
	long := some(1, n*most)
	mustCommit(t, j, long)
	checkJournal(t, j, n, n, top)
	checkRead(t, d, 0, n, top, long)
	checkRead(t, d, 0, n-1, top)
	checkImage(t, d, lying(n, top, long))

	j = begun(t, d, 0, n, top-1)
	var told []string
	for i := range n {
		told = append(told, some(i, i%48))
		mustWrite(t, j, told[i])
		if j.Next() != i+1 || j.Room() != (n-i-1)*most {
			t.Fatalf("behind %d records: Next %d, Room %d", i+1, j.Next(), j.Room())
		}
	}
	checkErr(t, "Commit", j.Commit(nil), api.ErrFull)
	checkRead(t, d, 0, n, top-1, told...)
	checkRead(t, d, 0, n-1, top-1, told[:n-1]...)
}

// spoiled are the ways in which a sector may be none that is stamped, of one that is.
func spoiled(s string) map[string]string {
	b := []byte(s)
	with := func(at int, x byte) string {
		c := slices.Clone(b)
		c[at] = x
		return string(c)
	}
	l := map[string]string{
		"nothing":        filled("", size),
		"the turn 0":     row(0, 0, true, "a"),
		"the turn 0, 1":  row(0, 1, true, "a"),
		"48 bytes":       with(8, 48),
		"48, the last":   with(8, 48|final),
		"127 bytes":      with(8, 127),
		"127, the last":  with(8, 255),
		"a byte more":    row(9, 0, true, "a")[:55] + "x" + row(9, 0, true, "a")[56:],
		"no form at all": strings.Repeat("o", 32) + strings.Repeat("p", 32),
	}
	for at := range 8 {
		l[fmt.Sprintf("torn at %d", at)] = with(at, b[at]^1)
		l[fmt.Sprintf("torn at %d", 56+at)] = with(56+at, b[56+at]^128)
	}
	return l
}

// P10.1: of a device without anything, and where the first sector is none, nothing is told, and the turn 0.
func TestReadNone(t *testing.T) {
	d := made(t, 9)
	for _, p := range parts(9) {
		checkRead(t, d, p[0], p[1], 0)
	}
	for what, s := range spoiled(row(9, 0, true, some(1, 47))) {
		d := holding(t, s+rows(9, 1, "b")+rows(9, 2, "c"))
		checkRead(t, d, 0, 3, 0)
		checkRead(t, d, 0, 1, 0)
		if t.Failed() {
			t.Fatal(what)
		}
	}
}

// P10.1: a first sector of another place is none of the journal's; the turn is told all the same.
func TestReadOtherPlace(t *testing.T) {
	for _, place := range []uint32{1, 2, 3, 255, 256, 1 << 16, 1 << 31, top} {
		d := holding(t, rows(9, place, "a")+rows(9, place+1, "b")+rows(9, 1, "c")+rows(9, 2, "d"))
		checkRead(t, d, 0, 4, 9)
		checkRead(t, d, 0, 1, 9)
	}
	d := holding(t, lying(6, 9, "a", "b", some(1, 60), "c"))
	checkRead(t, d, 0, 6, 9, "a", "b", some(1, 60), "c")
	for from := 1; from < 5; from++ {
		checkRead(t, d, from, 6-from, 9)
	}
	checkRead(t, d, 5, 1, 0)
}

// P10.1: what comes behind a sector that is none isn't told, nor is the record that it would be of.
func TestReadUpToNone(t *testing.T) {
	told := []string{"a", some(1, 130), "", some(2, 47), some(3, 48)}
	whole := lying(8, 9, told...)
	var ends []int
	n := 0
	for _, r := range told {
		n += plainCost(r)
		ends = append(ends, n)
	}
	for at := range n {
		s := whole[at*size : (at+1)*size]
		others := spoiled(s)
		others["another turn"] = row(10, uint32(at), true, "x")
		others["a turn far on"] = row(9+1<<24, uint32(at), true, "x")
		others["the place ahead"] = row(9, uint32(at)-1, true, "x")
		others["the place behind"] = row(9, uint32(at)+1, true, "x")
		others["a place far on"] = row(9, uint32(at)+1<<16, true, "x")
		for what, other := range others {
			if at == 0 && stamped(other) {
				continue
			}
			d := holding(t, whole[:at*size]+other+whole[(at+1)*size:])
			k := 0
			for k < len(ends) && ends[k] <= at {
				k++
			}
			turn := uint32(9)
			if at == 0 {
				turn = 0
			}
			checkRead(t, d, 0, 8, turn, told[:k]...)
			if t.Failed() {
				t.Fatalf("%s at %d", what, at)
			}
		}
	}
}

// P10.1: of sectors of another turn behind those of this one nothing is told, whether they end a record or begin one.
func TestReadTwoTurns(t *testing.T) {
	old := lying(6, 8, "old", some(1, 100), "o", "older")
	for _, r := range [][]string{{"new"}, {some(2, 47)}, {some(2, 48)}, {"new", "n"}, {some(2, 95), ""}} {
		lie := lying(6, 9, r...)
		n := 0
		for _, x := range r {
			n += plainCost(x)
		}
		d := holding(t, lie[:n*size]+old[n*size:])
		checkRead(t, d, 0, 6, 9, r...)
		for k := range n {
			d := holding(t, lie[:k*size]+old[k*size:])
			want, turn := plainRead(lie[:k*size] + old[k*size:])
			checkRead(t, d, 0, 6, turn, want...)
		}
	}
	// The turn is the first sector's, be it less than those behind it or not.
	for _, turn := range []uint32{1, 7, 10, top} {
		d := holding(t, row(turn, 0, true, "a")+row(9, 1, true, "b"))
		checkRead(t, d, 0, 2, turn, "a")
	}
}

// P10.1: what lacks its last sector, or reaches beyond the journal, isn't told.
func TestReadCut(t *testing.T) {
	for n := 1; n <= 5; n++ {
		long := some(1, n*most)
		for ahead := range 3 {
			told := []string{"a", "b"}[:ahead]
			lie := lying(ahead+n, 9, append(slices.Clone(told), long)...)
			for k := 1; k < n; k++ {
				cut := lie[:(ahead+k)*size]
				checkRead(t, holding(t, cut), 0, ahead+k, 9, told...)
				checkRead(t, holding(t, cut+filled("", 2*size)), 0, ahead+k+2, 9, told...)
				checkRead(t, holding(t, lie), 0, ahead+k, 9, told...)
				checkRead(t, holding(t, cut+row(8, uint32(ahead+k), true, "x")), 0, ahead+k+1, 9, told...)
			}
			checkRead(t, holding(t, lie), 0, ahead+n, 9, append(slices.Clone(told), long)...)
		}
	}
}

// P10.1: Read looks at the journal's sectors alone, and at what waits in them too.
func TestReadPart(t *testing.T) {
	d := holding(t, row(9, 0, true, "x")+lying(3, 5, "a", some(1, 60))+row(5, 3, true, "beyond"))
	checkRead(t, d, 1, 3, 5, "a", some(1, 60))
	checkRead(t, d, 1, 4, 5, "a", some(1, 60), "beyond")
	checkRead(t, d, 1, 2, 5, "a")
	checkRead(t, d, 0, 5, 9, "x")
	j := begun(t, d, 1, 3, 6)
	mustWrite(t, j, "b")
	checkRead(t, d, 1, 3, 6, "b")
	checkWaits(t, d, 1, 1)
}

// P10.1: how many sectors a record has, at both ends of int.
func TestCost(t *testing.T) {
	for n := range 2000 {
		if got, want := journal.Cost(n), plainCost(strings.Repeat("x", n)); got != want {
			t.Errorf("Cost(%d): %d, want %d", n, got, want)
		}
	}
	const last = math.MaxInt
	for n, want := range map[int]int{
		-1: 1, -46: 1, -47: 1, -48: 1, -1000: 1, math.MinInt: 1, math.MinInt + 1: 1, math.MinInt + 46: 1,
		0: 1, 1: 1, 46: 1, 47: 1, 48: 2, 94: 2, 95: 3, 47 << 40: 1 << 40, 47<<40 + 1: 1<<40 + 1,
		last: last/47 + 1, last - 1: last/47 + 1, last - last%47: last / 47, last - last%47 + 1: last/47 + 1, last - 46: (last-46)/47 + 1,
	} {
		if got := journal.Cost(n); got != want {
			t.Errorf("Cost(%d): %d, want %d", n, got, want)
		}
	}
}

// P10.1: all of a journal's sectors are 0, and nothing else; it is flushed.
func TestWipe(t *testing.T) {
	const n = 10
	for _, p := range parts(n) {
		from, end := p[0]*size, (p[0]+p[1])*size
		old := strings.Repeat("o", n*size)
		d := holding(t, old)
		checkErr(t, "Wipe", journal.Wipe(d, p[0], p[1]), api.OK)
		checkWaits(t, d, 0, 0)
		checkImage(t, d, old[:from]+filled("", end-from)+old[end:])
		checkRead(t, d, p[0], p[1], 0)
	}
}

// P10.1: what waited ahead of a Wipe is flushed with it, or wiped.
func TestWipeFlushes(t *testing.T) {
	d := made(t, 6)
	j := begun(t, d, 2, 4, 3)
	checkErr(t, "device's Write", d.Write(0, []byte("other")), api.OK)
	mustWrite(t, j, some(1, 150))
	checkErr(t, "Wipe", journal.Wipe(d, 3, 2), api.OK)
	checkWaits(t, d, 0, 0)
	lie := lying(4, 3, some(1, 150))
	checkImage(t, d, filled("other", 2*size)+lie[:size]+filled("", 2*size)+lie[3*size:])
	checkRead(t, d, 2, 4, 3)
}

// P10.1: each sector is written, be it 0 or not, and a crash amid them leaves the others as they were.
func TestWipeCrash(t *testing.T) {
	const n = 5
	for _, empty := range []bool{false, true} {
		for k := 1; k <= n+1; k++ {
			old := filled("", n*size)
			if !empty {
				old = strings.Repeat("o", n*size)
			}
			d := holding(t, "o"+old[:size-1]+old+old[:size])
			whole := string(d.Image())
			d.Arm(k, all, no, 0)
			want := api.ErrDown
			if k > n {
				want = api.OK
			}
			checkErr(t, fmt.Sprintf("Wipe, a crash at %d", k), journal.Wipe(d, 1, n), want)
			if d.Down() != (k <= n) {
				t.Errorf("a crash at %d: down: %t", k, d.Down())
			}
			k := min(k, n)
			checkImage(t, d, whole[:size]+filled("", k*size)+whole[(1+k)*size:])
		}
	}
}

// P10.1: a nil journal.
func TestNil(t *testing.T) {
	var j *journal.Journal
	for _, data := range [][]byte{nil, {}, []byte("a"), make([]byte, 1000)} {
		checkErr(t, "Write", j.Write(data), api.ErrArg)
		checkErr(t, "Commit", j.Commit(data), api.ErrArg)
	}
	if j.Room() != 0 || j.Next() != 0 || j.Turn() != 0 {
		t.Errorf("Room %d, Next %d, Turn %d; want 0", j.Room(), j.Next(), j.Turn())
	}
}

// P10.1: on a device that is down nothing is told or done; once it is up all goes on.
func TestDown(t *testing.T) {
	d := made(t, 6)
	j := begun(t, d, 1, 4, 3)
	mustCommit(t, j, "a")
	lie := filled("", size) + lying(5, 3, "a")
	for range 3 {
		d.Crash(all, no, 0)
		for range 2 {
			for _, length := range []int{0, 1, 47, 48, 3 * most} {
				checkErr(t, "Write", j.Write(make([]byte, length)), api.ErrDown)
				checkErr(t, "Commit", j.Commit(make([]byte, length)), api.ErrDown)
			}
			// That it doesn't go in is told first.
			checkErr(t, "Write", j.Write(make([]byte, 3*most+1)), api.ErrFull)
			checkErr(t, "Commit", j.Commit(make([]byte, 3*most+1)), api.ErrFull)
			checkJournal(t, j, 4, 1, 3)
			checkNoRead(t, d, 1, 4, api.ErrDown)
			checkErr(t, "Wipe", journal.Wipe(d, 1, 4), api.ErrDown)
			checkWaits(t, d, 0, 0)
			checkImage(t, d, lie)
		}
		d.Up()
		checkJournal(t, j, 4, 1, 3)
		checkRead(t, d, 1, 4, 3, "a")
	}
	mustCommit(t, j, some(1, 48))
	checkJournal(t, j, 4, 3, 3)
	mustWrite(t, j, "")
	checkRead(t, d, 1, 4, 3, "a", some(1, 48), "")
}

// P10.1: of a record amid which the device went down, the journal isn't told; it goes on at the same place.
func TestDownAmidRecord(t *testing.T) {
	for flushed, put := range puts() {
		for k := 1; k <= 3; k++ {
			for _, keep := range []uint64{0, 1, all} {
				d := made(t, 6)
				j := begun(t, d, 1, 5, 3)
				mustCommit(t, j, "a")
				d.Arm(k, keep, no, 0)
				data := some(1, 3*most)
				checkErr(t, "a record", put(j, []byte(data)), api.ErrDown)
				checkJournal(t, j, 5, 1, 3)
				checkErr(t, "a record", put(j, []byte(data)), api.ErrDown)
				d.Up()
				checkJournal(t, j, 5, 1, 3)
				checkErr(t, "a record", put(j, []byte(data)), api.OK)
				checkJournal(t, j, 5, 4, 3)
				if flushed {
					checkImage(t, d, filled("", size)+lying(5, 3, "a", data))
				} else {
					checkWaits(t, d, 2, 3)
				}
				checkRead(t, d, 1, 5, 3, "a", data)
			}
		}
	}
}

// act is a record, and whether it is committed.
type act struct {
	data   string
	commit bool
}

// do puts acts' records till there is an error: how many were done, and how many of these are flushed.
func do(j *journal.Journal, acts []act) (done, flushed int, e api.Errno) {
	for i, a := range acts {
		if a.commit {
			e = j.Commit([]byte(a.data))
		} else {
			e = j.Write([]byte(a.data))
		}
		if e != api.OK {
			return i, flushed, e
		}
		if a.commit {
			flushed = i + 1
		}
	}
	return len(acts), flushed, api.OK
}

// checkBack holds what a journal tells behind a crash: all that was flushed, and of what was written a beginning, each whole.
func checkBack(t *testing.T, what string, d *device.Device, from, n int, turn uint32, acts []act, flushed, written int) {
	t.Helper()
	l, got, e := journal.Read(d, from, n)
	told, plain := plainRead(string(d.Image()[from*size : (from+n)*size]))
	if !slices.Equal(texts(l), told) || got != plain || e != api.OK {
		t.Fatalf("%s: %s, turn %d, error %d; want %s, turn %d, 0", what, short(texts(l)), got, e, short(told), plain)
	}
	if got != turn {
		// It is as if nothing had been written.
		if flushed > 0 {
			t.Fatalf("%s: turn %d, want %d", what, got, turn)
		}
		return
	}
	if len(l) < flushed || len(l) > written {
		t.Fatalf("%s: %d records, want %d to %d", what, len(l), flushed, written)
	}
	for i, b := range l {
		if string(b) != acts[i].data {
			t.Fatalf("%s: record %d is %q, want %q", what, i, b, acts[i].data)
		}
	}
}

// grounds are what a journal of so many sectors may be begun over: nothing, and other turns, near the turn and far.
func grounds(n int, turn uint32) map[string]string {
	l := map[string]string{"nothing": filled("", n*size)}
	for _, other := range []uint32{turn - 1, turn + 1, turn ^ 1<<8, turn ^ 1<<24, turn ^ 1<<31} {
		l[fmt.Sprintf("long ones of the turn %d", other)] = lying(n, other, some(7, n*most))
		l[fmt.Sprintf("short ones of the turn %d", other)] = lying(n, other, strings.Split(strings.Repeat("x", n-1), "")...)
	}
	return l
}

// checkCrashes tries each set that a crash keeps of so many that wait at most, and each of them torn at every byte.
func checkCrashes(t *testing.T, waiting int, try func(what string, keep uint64, torn, n int)) {
	t.Helper()
	for keep := range uint64(1) << waiting {
		try(fmt.Sprintf("kept %b", keep), keep, no, 0)
		for torn := range waiting {
			if keep>>torn&1 == 0 {
				continue
			}
			for n := range size + 1 {
				try(fmt.Sprintf("kept %b, %d torn at %d", keep, torn, n), keep, torn, n)
			}
		}
	}
}

// script is records of which some are committed, so that five sectors wait at most.
func script() []act {
	return []act{{some(1, 50), true}, {"b", false}, {some(2, 48), false}, {some(3, 94), true}, {"", false}, {some(4, 96), false}}
}

// P10.2: crashes at every writing, with each set of those that wait kept, each torn at every byte.
func TestCrashAtEveryWriting(t *testing.T) {
	const n, turn = 12, 0x01010101
	acts := script()
	sectors := 0
	for _, a := range acts {
		sectors += plainCost(a.data)
	}
	for ground, lie := range grounds(n, turn) {
		old := holding(t, filled("", size)+lie+filled("", size))
		for k := 1; k <= sectors; k++ {
			checkCrashes(t, waiting(acts, k), func(what string, keep uint64, torn, cut int) {
				d := old.Copy()
				d.Arm(k, keep, torn, cut)
				done, flushed, e := do(begun(t, d, 1, n, turn), acts)
				if e != api.ErrDown || done == len(acts) {
					t.Fatalf("%d acts, error %d, want ErrDown", done, e)
				}
				d.Up()
				checkBack(t, fmt.Sprintf("over %s, at the writing %d, %s", ground, k, what), d, 1, n, turn, acts, flushed, done+1)
			})
		}
	}
}

// waiting is how many wait at the k-th writing, itself too.
func waiting(acts []act, k int) int {
	n, waits := 0, 0
	for _, a := range acts {
		for range plainCost(a.data) {
			n++
			waits++
			if n == k {
				return waits
			}
		}
		if a.commit {
			waits = 0
		}
	}
	return waits
}

// P10.2: likewise of crashes between calls.
func TestCrashBetween(t *testing.T) {
	const n, turn = 12, 0x00ffffff
	acts := script()
	for ground, lie := range grounds(n, turn) {
		old := holding(t, filled("", 2*size)+lie)
		for k := range len(acts) + 1 {
			ahead := old.Copy()
			done, flushed, e := do(begun(t, ahead, 2, n, turn), acts[:k])
			checkErr(t, "all acts", e, api.OK)
			checkCrashes(t, len(waits(ahead)), func(what string, keep uint64, torn, cut int) {
				d := ahead.Copy()
				d.Crash(keep, torn, cut)
				d.Up()
				checkBack(t, fmt.Sprintf("over %s, behind %d acts, %s", ground, k, what), d, 2, n, turn, acts, flushed, done)
			})
		}
	}
}

// P10.2: what is flushed and kept whole is told whole, not just less than it.
func TestCrashKeepsAll(t *testing.T) {
	acts := script()
	for k := range len(acts) + 1 {
		d := made(t, 12)
		j := begun(t, d, 0, 12, 4)
		do(j, acts[:k])
		d.Crash(all, no, 0)
		d.Up()
		var want []string
		for _, a := range acts[:k] {
			want = append(want, a.data)
		}
		turn := uint32(4)
		if k == 0 {
			turn = 0
		}
		checkRead(t, d, 0, 12, turn, want...)
	}
}

// roomy is a row of such bytes, with room behind it, and the whole of it.
func roomy(data string) (part, whole []byte) {
	whole = []byte(data + "the room behind it, that is nobody's but the caller's")
	return whole[:len(data)], whole
}

// P10.2: what is handed in stays as it is, the room behind it too, and isn't kept.
func TestHandedIn(t *testing.T) {
	for _, put := range puts() {
		for _, length := range append(lengths(), 5*most, 5*most+1, 1000) {
			d := made(t, 7)
			j := begun(t, d, 1, 5, 3)
			data := some(1, length)
			part, whole := roomy(data)
			old := string(whole)
			e := put(j, part)
			if string(whole) != old {
				t.Errorf("%d bytes handed in, error %d: they are other ones", length, e)
			}
			told := string(mustTold(t, d))
			for i := range whole {
				whole[i] = 'x'
			}
			checkTold(t, d, told)
			d.Flush()
			checkImage(t, d, told)
		}
	}
}

// mustTold is what a device's sectors are, as they are read.
func mustTold(t *testing.T, d *device.Device) []byte {
	t.Helper()
	b, e := d.Read(0, d.Len())
	checkErr(t, "device's Read", e, api.OK)
	return b
}

// spoil changes a row, and adds to it.
func spoil(b []byte) {
	for i := range b {
		b[i] ^= 255
	}
	whole := b[:cap(b)]
	for i := range whole {
		whole[i] = '!'
	}
	_ = append(b, "more"...)
}

// P10.2: of two answers, and of two records of one, one may be changed without the other.
func TestAnswersApart(t *testing.T) {
	const n = 30
	d := made(t, n)
	j := begun(t, d, 0, n, 3)
	var told []string
	for i, length := range []int{0, 1, 47, 48, 94, 95, 0, 46, 200, 3, 4} {
		told = append(told, some(i, length))
		mustCommit(t, j, told[i])
	}
	old := string(mustTold(t, d))
	for i := range told {
		one, _, _ := journal.Read(d, 0, n)
		other, _, _ := journal.Read(d, 0, n)
		spoil(one[i])
		for k := range told {
			if k != i && string(one[k]) != told[k] {
				t.Errorf("of one answer the record %d hangs on the record %d", k, i)
			}
		}
		if !slices.Equal(texts(other), told) {
			t.Errorf("another answer hangs on a record %d of one", i)
		}
		one[i] = nil
		_ = append(one[:i], []byte("more"))
		if !slices.Equal(texts(other), told) {
			t.Errorf("another answer hangs on one's list")
		}
	}
	checkTold(t, d, old)
	checkRead(t, d, 0, n, 3, told...)
}

// P10.2: an answer stays as it is, whatever becomes of the device.
func TestAnswersStay(t *testing.T) {
	d := made(t, 6)
	j := begun(t, d, 0, 6, 3)
	mustCommit(t, j, "a")
	mustCommit(t, j, some(1, 100))
	l, turn, _ := journal.Read(d, 0, 6)
	mustCommit(t, j, "b")
	checkErr(t, "Wipe", journal.Wipe(d, 0, 6), api.OK)
	mustCommit(t, begun(t, d, 0, 6, 4), "other")
	if !slices.Equal(texts(l), []string{"a", some(1, 100)}) || turn != 3 {
		t.Errorf("an answer became %s, turn %d", short(texts(l)), turn)
	}
}

// P10.1: two journals on one device, or two of one place, know nothing of each other.
func TestTwoJournals(t *testing.T) {
	d := made(t, 8)
	a, b := begun(t, d, 0, 4, 3), begun(t, d, 4, 4, 4)
	mustWrite(t, a, "a")
	mustWrite(t, b, some(1, 60))
	mustCommit(t, a, some(2, 60))
	mustCommit(t, b, "b")
	checkJournal(t, a, 4, 3, 3)
	checkJournal(t, b, 4, 3, 4)
	checkRead(t, d, 0, 4, 3, "a", some(2, 60))
	checkRead(t, d, 4, 4, 4, some(1, 60), "b")
	c := begun(t, d, 0, 4, 5)
	mustCommit(t, c, "c")
	checkJournal(t, a, 4, 3, 3)
	checkRead(t, d, 0, 4, 5, "c")
}

// pick is one of a list by chance.
func pick[T any](r *rand.Rand, l ...T) T { return l[r.Intn(len(l))] }

// P10.1: Read of sectors by chance, most of them near what a journal may be.
func TestReadChance(t *testing.T) {
	r := rand.New(rand.NewSource(10))
	for range 20000 {
		n := 1 + r.Intn(6)
		lie := ""
		for i := range n {
			turn, place := pick(r, 5, 5, 5, 5, 5, 5, 5, 5, 6), pick(r, i, i, i, i, i, i, i, i, i, i-1, i+1, 0)
			s := row(uint32(turn), uint32(place), r.Intn(2) == 0, some(r.Intn(100), pick(r, 0, 1, 46, 47, 47, 47)))
			if r.Intn(20) == 0 {
				b := []byte(s)
				b[r.Intn(size)] ^= 1 << r.Intn(8)
				s = string(b)
			}
			lie += s
		}
		want, turn := plainRead(lie)
		checkRead(t, holding(t, lie), 0, n, turn, want...)
		if t.Failed() {
			t.Fatalf("%q", lie)
		}
	}
}

// P10.1, P10.2: journals by chance, turn by turn, with crashes, behind which another one is begun.
func TestChance(t *testing.T) {
	r := rand.New(rand.NewSource(11))
	for range 600 {
		n := 1 + r.Intn(20)
		d := made(t, n+2)
		turn := uint32(1 + r.Intn(300))
		for range 8 {
			if r.Intn(3) == 0 {
				checkErr(t, "Wipe", journal.Wipe(d, 1, n), api.OK)
			}
			var acts []act
			for left := n; left > 0; {
				a := act{some(r.Intn(100), r.Intn(pick(r, 1, 48, 48, 150))), r.Intn(3) == 0}
				if left -= plainCost(a.data); left >= 0 {
					acts = append(acts, a)
				}
			}
			keep, torn, cut := r.Uint64(), r.Intn(n+1), r.Intn(size+1)
			d.Arm(r.Intn(2*n), keep, torn, cut)
			done, flushed, e := do(begun(t, d, 1, n, turn), acts)
			written := done
			if e != api.OK {
				checkErr(t, "an act", e, api.ErrDown)
				written++
			} else {
				d.Crash(keep, torn, cut)
			}
			d.Up()
			checkBack(t, fmt.Sprintf("keep %x, torn %d at %d", keep, torn, cut), d, 1, n, turn, acts, flushed, written)
			turn += uint32(1 + r.Intn(3))
		}
		ends := mustTold(t, d)
		if !bytes.Equal(ends[:size], make([]byte, size)) || !bytes.Equal(ends[(n+1)*size:], make([]byte, size)) {
			t.Fatal("sectors beside the journal were written")
		}
	}
}
