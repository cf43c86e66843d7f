package vault_test

import (
	"encoding/binary"
	"fmt"
	"math"
	"math/rand"
	"slices"
	"strings"
	"testing"

	"catacomb/api"
	"catacomb/device"
	"catacomb/vault"
)

const (
	size  = 64             // of a sector
	most  = 47             // bytes that it bears
	final = 128            // more in its mark, if it is the last one of its record
	top   = math.MaxUint32 // the greatest turn
	all   = ^uint64(0)     // a crash's keep: every writing that waits
	no    = -1             // a crash's torn: no writing is
	none  = -1             // instead of a half
)

// some is so many bytes, none of them 0, the same ones each time, and other ones of another seed.
func some(seed, n int) string {
	b := make([]byte, n)
	for i := range b {
		b[i] = byte(1 + (i*89+n*31+seed*57)%255)
	}
	return string(b)
}

// stampText is a turn and a place as bytes.
func stampText(turn, place uint32) string {
	return string(binary.BigEndian.AppendUint32(binary.BigEndian.AppendUint32(nil, turn), place))
}

// filled is a text with bytes 0 behind it, up to so many.
func filled(s string, n int) string { return s + strings.Repeat("\x00", n-len(s)) }

// row is a sector's bytes as chapter 9 tells them.
func row(turn, place uint32, last bool, borne string) string {
	mark := byte(len(borne))
	if last {
		mark |= final
	}
	s := stampText(turn, place)
	return s + string([]byte{mark}) + filled(borne, most) + s
}

// rows is a record's sectors, one behind the other.
func rows(turn, place uint32, data string) string {
	var s strings.Builder
	for ; len(data) > most; place++ {
		s.WriteString(row(turn, place, false, data[:most]))
		data = data[most:]
	}
	s.WriteString(row(turn, place, true, data))
	return s.String()
}

// cost is how many sectors a record has.
func cost(data string) int { return len(rows(1, 0, data)) / size }

// lying is the sectors of some records, up to so many, the rest 0.
func lying(n int, turn uint32, records ...string) string {
	s := ""
	for _, r := range records {
		s += rows(turn, uint32(len(s)/size), r)
	}
	return filled(s, n*size)
}

// whole is a device's bytes: of so many sectors records in a half, and nothing else.
func whole(n, half int, turn uint32, records ...string) string {
	return filled(filled("", half*(n/2)*size)+lying(n/2, turn, records...), n*size)
}

// stamped: is it a stamped sector's text?
func stamped(s string) bool {
	n := int(s[8] & 127)
	return s[:8] == s[56:] && s[:4] != "\x00\x00\x00\x00" && n <= most && strings.Trim(s[9+n:56], "\x00") == ""
}

// turnOf is a sector's first four bytes as a number.
func turnOf(s string) uint32 { return binary.BigEndian.Uint32([]byte(s)) }

// plainRead tells a half's records and its turn, by the texts of its sectors.
func plainRead(b string) ([]string, uint32) {
	if !stamped(b[:size]) {
		return nil, 0
	}
	turn := turnOf(b)
	var told []string
	begun := ""
	for i := range len(b) / size {
		s := b[i*size : (i+1)*size]
		if !stamped(s) || s[:8] != stampText(turn, uint32(i)) {
			break
		}
		begun += s[9 : 9+int(s[8]&127)]
		if s[8] >= final {
			told = append(told, begun)
			begun = ""
		}
	}
	return told, turn
}

// state is a current half (or none), its turn, its image and its changes.
type state struct {
	half    int
	turn    uint32
	image   string
	changes []string
}

// same: do they tell the same image and changes, of whatever turn?
func (s state) same(o state) bool {
	return (s.half == none) == (o.half == none) && s.image == o.image && slices.Equal(s.changes, o.changes)
}

func (s state) String() string {
	if s.half == none {
		return "nothing"
	}
	t := fmt.Sprintf("half %d, turn %d: %.8q(%d)", s.half, s.turn, s.image, len(s.image))
	for _, c := range s.changes {
		t += fmt.Sprintf(" %.8q(%d)", c, len(c))
	}
	return t
}

// plainOpen tells what is on a device, by the texts of its sectors.
func plainOpen(b string) state {
	s := state{half: none}
	n := len(b) / size / 2 * size
	for half := range 2 {
		l, turn := plainRead(b[half*n : (half+1)*n])
		if len(l) > 0 && turn > s.turn {
			s = state{half, turn, l[0], l[1:]}
		}
	}
	return s
}

// greatest is the greatest turn of all stamped sectors.
func greatest(b string) uint32 {
	turn := uint32(0)
	for i := range len(b) / size {
		if s := b[i*size : (i+1)*size]; stamped(s) {
			turn = max(turn, turnOf(s))
		}
	}
	return turn
}

// texts is a list of rows as texts.
func texts(l [][]byte) []string {
	var all []string
	for _, b := range l {
		all = append(all, string(b))
	}
	return all
}

func checkErr(t *testing.T, what string, got, want api.Errno) {
	t.Helper()
	if got != want {
		t.Errorf("%s: error %d, want %d", what, got, want)
	}
}

// made is a new device.
func made(t *testing.T, n int) *device.Device {
	t.Helper()
	d, e := device.New(n)
	if e != api.OK {
		t.Fatalf("device.New(%d): error %d", n, e)
	}
	return d
}

// put writes sectors from one on; they wait.
func put(t *testing.T, d *device.Device, from int, b string) {
	t.Helper()
	for i := range len(b) / size {
		checkErr(t, "device's Write", d.Write(from+i, []byte(b[i*size:(i+1)*size])), api.OK)
	}
}

// lay writes sectors from one on, and flushes them.
func lay(t *testing.T, d *device.Device, from int, b string) {
	t.Helper()
	put(t, d, from, b)
	checkErr(t, "device's Flush", d.Flush(), api.OK)
}

// holding is a device of such bytes, that lie there.
func holding(t *testing.T, b string) *device.Device {
	t.Helper()
	d := made(t, len(b)/size)
	lay(t, d, 0, b)
	return d
}

// formatted is a vault that Format makes.
func formatted(t *testing.T, d *device.Device, image string) *vault.Vault {
	t.Helper()
	v, e := vault.Format(d, []byte(image))
	if v == nil || e != api.OK {
		t.Fatalf("Format of %d sectors, %d bytes: %v, error %d", d.Len(), len(image), v, e)
	}
	return v
}

// opened is a vault that Open makes.
func opened(t *testing.T, d *device.Device) *vault.Vault {
	t.Helper()
	v, _, _, e := vault.Open(d)
	if v == nil || e != api.OK {
		t.Fatalf("Open of %d sectors: %v, error %d", d.Len(), v, e)
	}
	return v
}

func mustCommit(t *testing.T, v *vault.Vault, change string) {
	t.Helper()
	checkErr(t, fmt.Sprintf("Commit of %d bytes", len(change)), v.Commit([]byte(change)), api.OK)
}

func mustSeal(t *testing.T, v *vault.Vault, image string) {
	t.Helper()
	checkErr(t, fmt.Sprintf("Seal of %d bytes", len(image)), v.Seal([]byte(image)), api.OK)
}

// checkVault holds what a vault tells of itself: of so many sectors, with so many left for changes.
func checkVault(t *testing.T, v *vault.Vault, n, left int, turn uint32) {
	t.Helper()
	if got := v.Room(); got != left*most {
		t.Errorf("Room: %d, want %d", got, left*most)
	}
	if got := v.Turn(); got != turn {
		t.Errorf("Turn: %d, want %d", got, turn)
	}
	if got := v.Most(); got != n/2*most {
		t.Errorf("Most: %d, want %d", got, n/2*most)
	}
}

// toldOf is what Open tells of a device.
func toldOf(d *device.Device) (state, *vault.Vault, api.Errno) {
	v, image, changes, e := vault.Open(d)
	s := state{none, v.Turn(), string(image), texts(changes)}
	if v != nil {
		s.half = 0 // or 1: it doesn't tell
	}
	return s, v, e
}

// checkOpen holds that an image and changes are told, of such a turn, and that Open leaves the device as it is.
func checkOpen(t *testing.T, d *device.Device, turn uint32, image string, changes ...string) {
	t.Helper()
	told, lies, waits := read(t, d), string(d.Image()), waiting(d)
	s, v, e := toldOf(d)
	want := state{0, turn, image, changes}
	if !s.same(want) || s.turn != turn || e != api.OK {
		t.Errorf("Open: %v, error %d; want %v, 0", s, e, want)
	}
	checkVault(t, v, d.Len(), 0, turn)
	checkUntouched(t, d, told, lies, waits)
}

func checkNoOpen(t *testing.T, d *device.Device, want api.Errno) {
	t.Helper()
	if v, image, changes, e := vault.Open(d); v != nil || len(image) != 0 || len(changes) != 0 || e != want {
		t.Errorf("Open of %d sectors: %v, %d bytes, %d changes, error %d; want none, %d", d.Len(), v, len(image), len(changes), e, want)
	}
}

func checkNoFormat(t *testing.T, d *device.Device, length int, want api.Errno) {
	t.Helper()
	if v, e := vault.Format(d, make([]byte, length)); v != nil || e != want {
		t.Errorf("Format of %d sectors, %d bytes: %v, error %d; want none, %d", d.Len(), length, v, e, want)
	}
}

// read is what a device's sectors are, as they are read.
func read(t *testing.T, d *device.Device) string {
	t.Helper()
	b, e := d.Read(0, d.Len())
	checkErr(t, "device's Read", e, api.OK)
	return string(b)
}

// waiting is the sectors of the writings that wait.
func waiting(d *device.Device) []int {
	var l []int
	for _, at := range d.Waits() {
		l = append(l, at)
	}
	return l
}

func checkSectors(t *testing.T, what, got, want string) {
	t.Helper()
	if len(got) != len(want) {
		t.Errorf("%s: %d bytes, want %d", what, len(got), len(want))
		return
	}
	for at := 0; at < len(got); at += size {
		if got[at:at+size] != want[at:at+size] {
			t.Errorf("%s: sector %d is %q, want %q", what, at/size, got[at:at+size], want[at:at+size])
			return
		}
	}
}

// checkLies holds what lies on a device, and that nothing waits.
func checkLies(t *testing.T, d *device.Device, want string) {
	t.Helper()
	checkSectors(t, "image", string(d.Image()), want)
	if l := waiting(d); len(l) != 0 {
		t.Errorf("waiting: %v", l)
	}
}

// checkUntouched holds that a device is as it was.
func checkUntouched(t *testing.T, d *device.Device, told, lies string, waits []int) {
	t.Helper()
	checkSectors(t, "read", read(t, d), told)
	checkSectors(t, "image", string(d.Image()), lies)
	if l := waiting(d); !slices.Equal(l, waits) {
		t.Errorf("waiting: %v, want %v", l, waits)
	}
}

// P11.1: Format x, Commit a, Seal y: Open tells y, and no changes.
func TestExample(t *testing.T) {
	d := made(t, 8)
	v := formatted(t, d, "x")
	mustCommit(t, v, "a")
	checkOpen(t, d, 1, "x", "a")
	mustSeal(t, v, "y")
	checkOpen(t, d, 2, "y")
}

// sizes are those of devices that may have a vault.
func sizes() []int { return []int{8, 9, 10, 11, 12, 13, 30, 31, 100, 8191, 8192} }

// lengths are those of records around one to three sectors, and around all of a half.
func lengths(n int) []int {
	if n > 1000 {
		return []int{0, 141, n/2*most - most, n/2*most - 1, n / 2 * most}
	}
	l := []int{0, 1, 46, 47, 48, 94, 95, 140, 141}
	return append(l, n/2*most-most, n/2*most-most+1, n/2*most-1, n/2*most)
}

// P11.1: the image lies in the first half, of the turn 1, and nothing else.
func TestFormat(t *testing.T) {
	for _, n := range sizes() {
		for _, length := range lengths(n) {
			d := made(t, n)
			image := some(1, length)
			v := formatted(t, d, image)
			checkVault(t, v, n, n/2-cost(image), 1)
			checkLies(t, d, whole(n, 0, 1, image))
			checkOpen(t, d, 1, image)
		}
	}
}

// P11.1: images of bytes 0, and of bytes as sectors have them.
func TestOddImages(t *testing.T) {
	for _, image := range []string{
		"\x00", strings.Repeat("\x00", 47), strings.Repeat("\x00", 200), strings.Repeat("\xff", 150),
		row(9, 0, true, "inner"), rows(top, 0, some(3, 90)), "a" + strings.Repeat("\x00", 93),
	} {
		d := made(t, 21)
		v := formatted(t, d, image)
		mustCommit(t, v, image)
		checkOpen(t, d, 1, image, image)
		mustSeal(t, v, image)
		mustCommit(t, v, image)
		checkLies(t, d, whole(21, 1, 2, image, image))
		checkOpen(t, d, 2, image, image)
	}
}

// P11.1: a device that isn't there, or that is too small; that is told ahead of all else.
func TestTooSmall(t *testing.T) {
	long := []int{0, 1, 47, 3 * most, 3*most + 1, 1000}
	for _, length := range long {
		checkNoFormat(t, nil, length, api.ErrArg)
	}
	checkNoOpen(t, nil, api.ErrArg)
	for n := 1; n <= 7; n++ {
		for _, lies := range []string{filled("", n*size), strings.Repeat("o", n*size), lying(n, 5, "a"), strings.Repeat(row(top, 0, true, "a"), n)} {
			for _, down := range []bool{false, true} {
				d := holding(t, lies)
				if down {
					d.Crash(0, no, 0)
				}
				for _, length := range long {
					checkNoFormat(t, d, length, api.ErrArg)
				}
				checkNoOpen(t, d, api.ErrArg)
				checkLies(t, d, lies)
			}
		}
	}
}

// P11.1: an image that doesn't go in; that is told ahead of ErrDown and ErrRange, and nothing is done.
func TestFormatFull(t *testing.T) {
	for _, n := range sizes() {
		room := n / 2 * most
		for _, lies := range []string{whole(n, 1, 7, "x", "a"), strings.Repeat(row(top, 0, true, "a"), n)} {
			d := holding(t, lies)
			put(t, d, 3, strings.Repeat("o", size))
			told := read(t, d)
			for _, length := range []int{room + 1, room + 2, room + most, room + most + 1, 2 * room, n * most, 1 << 20} {
				checkNoFormat(t, d, length, api.ErrFull)
				checkUntouched(t, d, told, lies, []int{3})
			}
			d.Crash(0, no, 0)
			checkNoFormat(t, d, room+1, api.ErrFull)
			checkLies(t, d, lies)
		}
	}
}

// P11.1: a device that is down; that is told ahead of ErrRange, and of ErrNone.
func TestFormatOpenDown(t *testing.T) {
	for _, n := range []int{8, 9, 30} {
		for _, lies := range []string{filled("", n*size), whole(n, 1, 7, "x", "a"), strings.Repeat(row(top, 0, true, "a"), n)} {
			d := holding(t, lies)
			d.Crash(all, no, 0)
			for range 2 {
				checkNoFormat(t, d, 0, api.ErrDown)
				checkNoFormat(t, d, n/2*most, api.ErrDown)
				checkNoOpen(t, d, api.ErrDown)
				checkLies(t, d, lies)
			}
		}
	}
	d := made(t, 8)
	d.Crash(0, no, 0)
	checkNoFormat(t, d, 3, api.ErrDown)
	d.Up()
	checkVault(t, formatted(t, d, "x"), 8, 3, 1)
}

// turns are those of sectors that lie on a device.
func turns() []uint32 {
	return []uint32{1, 2, 255, 256, 1<<16 - 1, 1 << 16, 1<<24 - 1, 1 << 31, top - 2, top - 1}
}

// P11.1: the next turn is one more than that of each sector of the device, that of the last one too, be it in no half.
func TestFormatTurn(t *testing.T) {
	for _, n := range []int{8, 9, 10, 11} {
		for at := range n {
			for _, turn := range turns() {
				for _, place := range []uint32{0, uint32(at), top} {
					d := made(t, n)
					lay(t, d, at, row(turn, place, at%2 == 0, some(at, 40)))
					lay(t, d, (at+3)%n, row(1, place, true, ""))
					v := formatted(t, d, some(2, 60))
					checkVault(t, v, n, n/2-2, turn+1)
					checkLies(t, d, whole(n, 0, turn+1, some(2, 60)))
					checkOpen(t, d, turn+1, some(2, 60))
				}
			}
		}
	}
}

// P11.1: behind the last turn there is none; nothing is done.
func TestFormatRange(t *testing.T) {
	for _, n := range []int{8, 9, 10, 11} {
		for at := range n {
			lies := strings.Repeat(row(top-1, 0, true, ""), at) + row(top, uint32(at), at%2 == 0, "z") + filled("", (n-at-1)*size)
			d := holding(t, lies)
			put(t, d, (at+1)%n, strings.Repeat("o", size))
			told := read(t, d)
			for _, length := range []int{0, 1, 48, n / 2 * most} {
				checkNoFormat(t, d, length, api.ErrRange)
				checkUntouched(t, d, told, lies, []int{(at + 1) % n})
			}
		}
	}
}

// unstamped are sectors that are no stamped ones, but look like those of a turn.
func unstamped(turn uint32) []string {
	s := row(turn, 3, true, some(1, 40))
	with := func(at int, x byte) string {
		b := []byte(s)
		b[at] = x
		return string(b)
	}
	l := []string{with(8, 48), with(8, 48|final), with(8, 127), with(55, 1), s[:8] + filled("", 56), filled("", 56) + s[:8], strings.Repeat("\xff", 63) + "0"}
	for at := range 8 {
		l = append(l, with(at, s[at]^1), with(56+at, s[56+at]^128))
	}
	for at := 4; at < 60; at++ {
		l = append(l, s[:at]+filled("", size-at))
	}
	return l
}

// P11.1: sectors that are torn, or no sectors of a vault at all, have no turn.
func TestTurnOfUnstamped(t *testing.T) {
	for _, turn := range []uint32{0x01020304, top} {
		for i, s := range unstamped(turn) {
			if stamped(s) {
				t.Fatalf("%d is stamped", i)
			}
			for _, at := range []int{0, 4, 7, 8} {
				d := made(t, 9)
				lay(t, d, at, s)
				v := formatted(t, d, "x")
				checkVault(t, v, 9, 3, 1)
				checkLies(t, d, whole(9, 0, 1, "x"))
				lay(t, d, []int{4, 5, 7, 8}[i%4], s)
				mustSeal(t, v, "y")
				checkVault(t, v, 9, 3, 2)
				checkLies(t, d, whole(9, 1, 2, "y"))
			}
		}
	}
}

// P11.1: what waits is read, so that its turn counts; and what lies below it doesn't.
func TestTurnOfWaiting(t *testing.T) {
	for _, n := range []int{8, 9} {
		for at := range n {
			d := made(t, n)
			lay(t, d, at, row(top, 0, true, "lies"))
			put(t, d, at, row(40, 0, true, "waits"))
			v := formatted(t, d, "x")
			checkVault(t, v, n, 3, 41)
			checkLies(t, d, whole(n, 0, 41, "x"))

			put(t, d, at, row(top, 0, true, "once more"))
			lies := string(d.Image())
			told := read(t, d)
			checkErr(t, "Seal", v.Seal(nil), api.ErrRange)
			checkNoFormat(t, d, 0, api.ErrRange)
			checkUntouched(t, d, told, lies, []int{at})
			put(t, d, at, row(50, 1, true, "again"))
			mustSeal(t, v, "y")
			checkVault(t, v, n, 3, 51)
			checkLies(t, d, whole(n, 1, 51, "y"))
		}
	}
}

// grounds are what a vault may be formatted over.
func grounds(n int) map[string]string {
	part := n / 2
	one, two := lying(part, 6, some(1, 60), "a", some(2, 47)), lying(part, 7, "image", some(3, 60))
	ends := strings.Repeat("o", (n-2*part)*size)
	return map[string]string{
		"nothing":                  filled("", n*size),
		"no sectors of a vault":    strings.Repeat("o", n*size),
		"a vault, the first half":  filled(one, n*size),
		"a vault, the second half": filled("", part*size) + two + ends,
		"the second one greater":   one + two + ends,
		"the first one greater":    two + one + ends,
		"both the same":            one + one + ends,
		"full ones":                lying(part, 6, some(1, part*most)) + lying(part, 5, some(2, part*most)) + ends,
		"other places":             rows(6, 1, some(3, n*most)),
	}
}

// P11.1: whatever lay there, behind Format it is gone.
func TestFormatOver(t *testing.T) {
	for _, n := range []int{8, 9, 12, 13, 30, 31} {
		for what, ground := range grounds(n) {
			for _, length := range lengths(n) {
				d := holding(t, ground)
				image := some(4, length)
				turn := greatest(ground) + 1
				v := formatted(t, d, image)
				checkVault(t, v, n, n/2-cost(image), turn)
				checkLies(t, d, whole(n, 0, turn, image))
				checkOpen(t, d, turn, image)
				if t.Failed() {
					t.Fatalf("over %s, %d sectors, %d bytes", what, n, length)
				}
			}
		}
	}
}

// P11.1: what waits when a vault is formatted, or sealed, is gone too.
func TestOverWaiting(t *testing.T) {
	for _, n := range []int{8, 9} {
		for what, ground := range grounds(n) {
			d := made(t, n)
			put(t, d, 0, ground)
			v := formatted(t, d, "x")
			turn := greatest(ground) + 1
			checkLies(t, d, whole(n, 0, turn, "x"))
			put(t, d, n/2, ground[n/2*size:])
			mustSeal(t, v, "y")
			checkLies(t, d, whole(n, 1, turn+1, "y"))
			if t.Failed() {
				t.Fatalf("over %s, %d sectors", what, n)
			}
		}
	}
}

// P11.1: a device on which no half has a record.
func TestOpenNone(t *testing.T) {
	for _, n := range []int{8, 9, 30, 31} {
		part := n / 2
		cut := lying(part, 6, some(1, 90))
		for what, lies := range map[string]string{
			"nothing":                  filled("", n*size),
			"no sectors of a vault":    strings.Repeat("o", n*size),
			"a cut one":                filled(cut[:size], n*size),
			"a cut second one":         filled(filled("", part*size)+cut[:size], n*size),
			"both cut":                 filled(filled(cut[:size], part*size)+cut[:size], n*size),
			"without its beginning":    filled(filled("", size)+cut[size:2*size], n*size),
			"another place":            filled(rows(6, 1, "a"), n*size),
			"one longer than a half":   rows(6, 0, some(1, n*most)),
			"one across the middle":    filled(filled("", (part-1)*size)+rows(6, 0, some(1, 60)), n*size),
			"one that begins too late": filled(filled("", size)+lying(part-1, 6, "a", "b"), n*size),
			"a last one in no half":    filled("", (n-1)*size) + row(6, 0, true, "a"),
		} {
			checkNoOpen(t, holding(t, lies), api.ErrNone)
			if t.Failed() {
				t.Fatalf("%s, %d sectors", what, n)
			}
		}
	}
}

// parts are what a half may have, of so many sectors and a turn.
func parts(n int, turn uint32) []string {
	full := lying(n, turn, some(int(turn%99), n*most))
	several := lying(n, turn, "", "a", "", some(2, 40))
	return []string{
		filled("", n*size),
		strings.Repeat("o", n*size),
		full,
		lying(n, turn, ""),
		lying(n, turn, some(3, 60)),
		several,
		lying(n, turn, "image", some(4, 60)),
		// The image is cut; then a change is.
		full[:(n-1)*size] + filled("", size),
		several[:size] + lying(n, turn, "", some(5, 48))[size:2*size] + filled("", (n-2)*size),
		several[:2*size] + filled("", size) + several[3*size:],
		filled("", size) + several[size:],
		// Sectors of another turn behind the image, and in it.
		several[:size] + lying(n, turn-1, "", "x", "y")[size:],
		full[:size] + lying(n, turn+1, some(1, n*most))[size:],
	}
}

// P11.1: of both halves that with a record, of both with one that of the greater turn.
func TestOpenHalves(t *testing.T) {
	for _, n := range []int{8, 9, 12} {
		for _, turns := range [][2]uint32{{5, 6}, {6, 5}, {255, 256}, {256, 255}, {top - 1, top - 2}, {2, 1 << 31}, {1 << 24, 1 << 16}} {
			for _, a := range parts(n/2, turns[0]) {
				for _, b := range parts(n/2, turns[1]) {
					lies := filled(a+b, n*size)
					if n%2 == 1 {
						lies = a + b + row(top, 0, true, "last")
					}
					d := holding(t, lies)
					if s := plainOpen(lies); s.half == none {
						checkNoOpen(t, d, api.ErrNone)
					} else {
						checkOpen(t, d, s.turn, s.image, s.changes...)
					}
				}
			}
		}
	}
}

// P11.1: what goes on behind the first half's end is none of its records.
func TestOpenPastHalf(t *testing.T) {
	for _, n := range []int{8, 9, 30} {
		d := holding(t, lying(n, 6, some(1, 60), "a", some(2, (n-3)*most)))
		checkOpen(t, d, 6, some(1, 60), "a")
		d = holding(t, lying(n, 6, some(1, n/2*most), "a"))
		checkOpen(t, d, 6, some(1, n/2*most))
	}
	d := holding(t, filled("", 4*size)+lying(5, 6, some(1, 4*most), "a"))
	checkOpen(t, d, 6, some(1, 4*most))
}

// P11.1: what waits is read.
func TestOpenWaiting(t *testing.T) {
	d := holding(t, whole(9, 0, 7, "x", "a", "b"))
	put(t, d, 1, row(7, 1, true, "c"))
	put(t, d, 8, row(9, 1, true, "d"))
	checkOpen(t, d, 7, "x", "c", "b")
	put(t, d, 4, row(8, 0, true, "y"))
	checkOpen(t, d, 8, "y")
	put(t, d, 4, filled("", size))
	put(t, d, 0, filled("", size))
	told, lies, waits := read(t, d), string(d.Image()), waiting(d)
	checkNoOpen(t, d, api.ErrNone)
	checkUntouched(t, d, told, lies, waits)
}

// pick is one of a list by chance.
func pick[T any](r *rand.Rand, l ...T) T { return l[r.Intn(len(l))] }

// P11.1: Open of sectors by chance, most of them near what a vault may have.
func TestOpenChance(t *testing.T) {
	r := rand.New(rand.NewSource(11))
	told := 0
	for range 20000 {
		n := 8 + r.Intn(4)
		lies := ""
		for i := range n {
			turn, place := pick(r, 5, 5, 5, 5, 5, 6), i%(n/2)
			if i >= n/2 {
				turn = pick(r, 4, 4, 4, 4, 6, 7)
			}
			if r.Intn(12) == 0 {
				place = r.Intn(n)
			}
			s := row(uint32(turn), uint32(place), r.Intn(2) == 0, some(r.Intn(100), pick(r, 0, 1, 46, 47, 47, 47)))
			if r.Intn(20) == 0 {
				b := []byte(s)
				b[r.Intn(size)] ^= 1 << r.Intn(8)
				s = string(b)
			}
			lies += s
		}
		d := holding(t, lies)
		if s := plainOpen(lies); s.half == none {
			checkNoOpen(t, d, api.ErrNone)
		} else {
			told++
			checkOpen(t, d, s.turn, s.image, s.changes...)
		}
		if t.Failed() {
			t.Fatalf("%q", lies)
		}
	}
	if told < 2000 || told > 18000 {
		t.Errorf("%d of them have one", told)
	}
}

// P11.1: changes stand behind the image, one behind the other, and don't wait.
func TestCommit(t *testing.T) {
	const n = 101
	d := made(t, n)
	v := formatted(t, d, some(1, 60))
	for half, turn := range []uint32{1, 2, 3, 4} {
		half %= 2
		told := []string{some(1, 60)}
		left := n/2 - 2
		for i, length := range []int{0, 1, 46, 47, 48, 0, 94, 95, 5, 140, 141, 142, 0, 200, 300} {
			change := some(i+int(turn), length)
			mustCommit(t, v, change)
			told = append(told, change)
			left -= cost(change)
			checkVault(t, v, n, left, turn)
			checkLies(t, d, whole(n, half, turn, told...))
			checkOpen(t, d, turn, told[0], told[1:]...)
		}
		mustSeal(t, v, some(1, 60))
	}
}

// P11.1: Commit flushes what waits, and leaves it as it is.
func TestCommitFlushes(t *testing.T) {
	d := made(t, 9)
	v := formatted(t, d, "x")
	put(t, d, 8, strings.Repeat("o", size))
	mustCommit(t, v, "a")
	checkLies(t, d, whole(9, 0, 1, "x", "a")[:8*size]+strings.Repeat("o", size))
}

// P11.1: a change that just goes in, one that is a byte too long, and what comes when all is full.
func TestCommitFull(t *testing.T) {
	for _, n := range []int{8, 9, 10, 31} {
		for taken := 1; taken < n/2; taken++ {
			for _, seals := range []int{0, 1, 2} {
				d := made(t, n)
				v := formatted(t, d, some(1, taken*most))
				for range seals {
					mustSeal(t, v, some(1, taken*most))
				}
				told := []string{some(1, taken*most)}
				turn := uint32(1 + seals)
				left := n/2 - taken
				checkFull(t, d, v, left, turn, left*most+1, left*most+2, (left+1)*most, (left+1)*most+1, n*most, 1<<20)
				if left > 1 {
					// A shorter one goes in all the same.
					mustCommit(t, v, "short")
					told = append(told, "short")
					left--
					checkFull(t, d, v, left, turn, left*most+1, (left+1)*most)
				}
				told = append(told, some(2, left*most))
				mustCommit(t, v, some(2, left*most))
				checkFull(t, d, v, 0, turn, 0, 1, 46, 47, 48, 1000)
				checkLies(t, d, whole(n, seals%2, turn, told...))
				checkOpen(t, d, turn, told[0], told[1:]...)
			}
		}
		d := made(t, n)
		v := formatted(t, d, some(1, n/2*most))
		checkFull(t, d, v, 0, 1, 0, 1, 47, 48)
	}
}

// checkFull holds that changes of such lengths don't go in, and that nothing is done.
func checkFull(t *testing.T, d *device.Device, v *vault.Vault, left int, turn uint32, lengths ...int) {
	t.Helper()
	lies := string(d.Image())
	last := d.Len() - 1
	put(t, d, last, lies[last*size:])
	for _, length := range lengths {
		checkErr(t, fmt.Sprintf("Commit of %d bytes, %d sectors left", length, left), v.Commit(make([]byte, length)), api.ErrFull)
		checkVault(t, v, d.Len(), left, turn)
		checkUntouched(t, d, lies, lies, []int{last})
	}
	checkErr(t, "device's Flush", d.Flush(), api.OK)
}

// P11.1: until an image is sealed behind Open, no changes; that is told ahead of all else.
func TestCommitState(t *testing.T) {
	for _, n := range []int{8, 9, 30} {
		d := made(t, n)
		mustCommit(t, formatted(t, d, "x"), "a")
		v := opened(t, d)
		lies := whole(n, 0, 1, "x", "a")
		for range 2 {
			for _, length := range []int{0, 1, 47, 48, n / 2 * most, n/2*most + 1, 1 << 20} {
				checkErr(t, "Commit", v.Commit(make([]byte, length)), api.ErrState)
				checkVault(t, v, n, 0, 1)
				checkLies(t, d, lies)
			}
			// A Seal that doesn't come about seals nothing.
			checkErr(t, "Seal", v.Seal(make([]byte, n/2*most+1)), api.ErrFull)
		}
		d.Crash(0, no, 0)
		checkErr(t, "Commit", v.Commit(nil), api.ErrState)
		checkErr(t, "Seal", v.Seal(nil), api.ErrDown)
		checkErr(t, "Commit", v.Commit(nil), api.ErrState)
		d.Up()
		checkErr(t, "Commit", v.Commit(nil), api.ErrState)
		checkVault(t, v, n, 0, 1)
		mustSeal(t, v, "y")
		checkVault(t, v, n, n/2-1, 2)
		mustCommit(t, v, "b")
		checkLies(t, d, whole(n, 1, 2, "y", "b"))
	}
}

// P11.1: an image in the other half, with the next turn; the half that was is wiped. Time and again, behind Format and behind Open.
func TestSeal(t *testing.T) {
	for _, n := range sizes() {
		if n > 100 {
			continue
		}
		for _, reopen := range []bool{false, true} {
			d := made(t, n)
			v := formatted(t, d, "first")
			half, turn := 0, uint32(1)
			for i, length := range slices.Concat(lengths(n), lengths(n)) {
				if i%3 != 1 && v.Room() > 0 {
					mustCommit(t, v, some(i, v.Room()))
				}
				if reopen {
					v = opened(t, d)
				}
				image := some(i, length)
				mustSeal(t, v, image)
				half, turn = 1-half, turn+1
				checkVault(t, v, n, n/2-cost(image), turn)
				checkLies(t, d, whole(n, half, turn, image))
				checkOpen(t, d, turn, image)
			}
		}
	}
}

// P11.1: the greatest vaults that there may be.
func TestSealGreatest(t *testing.T) {
	for _, n := range []int{8191, 8192} {
		d := made(t, n)
		v := formatted(t, d, some(1, n/2*most))
		checkErr(t, "Commit", v.Commit(nil), api.ErrFull)
		mustSeal(t, v, some(2, n/2*most-most))
		mustCommit(t, v, some(3, most))
		checkErr(t, "Commit", v.Commit(nil), api.ErrFull)
		checkLies(t, d, whole(n, 1, 2, some(2, n/2*most-most), some(3, most)))
		checkErr(t, "Seal", v.Seal(make([]byte, n/2*most+1)), api.ErrFull)
		mustSeal(t, opened(t, d), some(4, n/2*most))
		checkLies(t, d, whole(n, 0, 3, some(4, n/2*most)))
		checkOpen(t, d, 3, some(4, n/2*most))
	}
}

// P11.1: an image that doesn't go in: nothing is done; that is told ahead of ErrRange and ErrDown.
func TestSealFull(t *testing.T) {
	for _, n := range []int{8, 9, 31} {
		for _, turn := range []uint32{7, top} {
			lies := whole(n, 1, turn, "x", "a")
			d := holding(t, lies)
			v := opened(t, d)
			put(t, d, 0, strings.Repeat("o", size))
			told := read(t, d)
			room := n / 2 * most
			for _, length := range []int{room + 1, room + 2, room + most, room + most + 1, 2 * room, 1 << 20} {
				checkErr(t, fmt.Sprintf("Seal of %d bytes", length), v.Seal(make([]byte, length)), api.ErrFull)
				checkVault(t, v, n, 0, turn)
				checkUntouched(t, d, told, lies, []int{0})
			}
			d.Crash(0, no, 0)
			checkErr(t, "Seal", v.Seal(make([]byte, room+1)), api.ErrFull)
			checkLies(t, d, lies)
		}
	}
	d := made(t, 8)
	v := formatted(t, d, some(1, 150))
	checkErr(t, "Seal", v.Seal(make([]byte, 189)), api.ErrFull)
	mustSeal(t, v, some(2, 188))
	checkErr(t, "Seal", v.Seal(make([]byte, 189)), api.ErrFull)
	checkVault(t, v, 8, 0, 2)
	checkLies(t, d, whole(8, 1, 2, some(2, 188)))
}

// P11.1: the turns' end, behind Format, Open and Seal; that is told ahead of ErrDown, and nothing is done.
func TestSealRange(t *testing.T) {
	for _, n := range []int{8, 9, 31} {
		d := made(t, n)
		lay(t, d, n-1, row(top-2, 0, true, ""))
		v := formatted(t, d, "x")
		checkVault(t, v, n, n/2-1, top-1)
		mustSeal(t, v, "y")
		checkVault(t, v, n, n/2-1, top)
		mustCommit(t, v, "a")
		lies := whole(n, 1, top, "y", "a")
		checkRange(t, d, v, lies)
		mustCommit(t, v, "b")
		lies = whole(n, 1, top, "y", "a", "b")
		checkLies(t, d, lies)
		checkRange(t, d, v, lies)
		checkRange(t, d, opened(t, d), lies)

		d = made(t, n)
		lay(t, d, n-1, row(top-1, 0, true, ""))
		v = formatted(t, d, "x")
		checkVault(t, v, n, n/2-1, top)
		checkRange(t, d, v, whole(n, 0, top, "x"))
	}
}

// checkRange holds that nothing may be sealed any more, be the device down or not.
func checkRange(t *testing.T, d *device.Device, v *vault.Vault, lies string) {
	t.Helper()
	room := v.Room()
	for range 2 {
		for _, length := range []int{0, 1, 48, d.Len() / 2 * most} {
			checkErr(t, fmt.Sprintf("Seal of %d bytes, down: %t", length, d.Down()), v.Seal(make([]byte, length)), api.ErrRange)
			checkVault(t, v, d.Len(), room/most, top)
			checkLies(t, d, lies)
		}
		d.Crash(0, no, 0)
	}
	d.Up()
}

// P11.1: the next turn is one more than that of each sector, wherever it lies; behind a Seal it is gone.
func TestSealTurn(t *testing.T) {
	for _, n := range []int{8, 9, 11} {
		for half := range 2 {
			for at := range n {
				for _, turn := range []uint32{1, 39, 40, 41, 255, 1 << 16, 1 << 31, top - 1, top} {
					lies := whole(n, half, 40, "x", "a")
					if at >= half*(n/2) && at < half*(n/2)+2 {
						continue
					}
					d := holding(t, lies)
					// None of the places at which it could be taken for a record.
					lay(t, d, at, row(turn, 99, true, "b"))
					lies = string(d.Image())
					v := opened(t, d)
					if turn == top {
						checkErr(t, "Seal", v.Seal(nil), api.ErrRange)
						checkVault(t, v, n, 0, 40)
						checkLies(t, d, lies)
						continue
					}
					mustSeal(t, v, some(1, 60))
					checkVault(t, v, n, n/2-2, max(turn, 40)+1)
					checkLies(t, d, whole(n, 1-half, max(turn, 40)+1, some(1, 60)))
				}
			}
		}
	}
}

// P11.1: a nil vault.
func TestNil(t *testing.T) {
	var v *vault.Vault
	for _, data := range [][]byte{nil, {}, []byte("a"), make([]byte, 1<<20)} {
		checkErr(t, "Commit", v.Commit(data), api.ErrArg)
		checkErr(t, "Seal", v.Seal(data), api.ErrArg)
	}
	if v.Room() != 0 || v.Turn() != 0 || v.Most() != 0 {
		t.Errorf("Room %d, Turn %d, Most %d; want 0", v.Room(), v.Turn(), v.Most())
	}
}

// P11.1: on a device that is down nothing is done; once it is up all goes on.
func TestDown(t *testing.T) {
	for _, n := range []int{8, 9} {
		d := made(t, n)
		v := formatted(t, d, "x")
		mustCommit(t, v, "a")
		checkDown(t, d, v, 2, 1)
		mustCommit(t, v, "b")
		checkLies(t, d, whole(n, 0, 1, "x", "a", "b"))
		checkDown(t, d, v, 1, 1)
		mustSeal(t, v, some(1, 60))
		checkLies(t, d, whole(n, 1, 2, some(1, 60)))
		checkDown(t, d, v, 2, 2)
		mustCommit(t, v, some(2, 94))
		checkDown(t, d, v, 0, 2)
		checkOpen(t, d, 2, some(1, 60), some(2, 94))
		v = opened(t, d)
		checkDown(t, d, v, 0, 2)
		mustSeal(t, v, "y")
		checkDown(t, d, v, 3, 3)
		checkOpen(t, d, 3, "y")
	}
}

// checkDown holds what a vault answers on a device that is down, and that nothing has changed when it is up.
func checkDown(t *testing.T, d *device.Device, v *vault.Vault, left int, turn uint32) {
	t.Helper()
	lies := string(d.Image())
	n := d.Len()
	for _, keep := range []uint64{0, all} {
		d.Crash(keep, 0, 5)
		for range 2 {
			if left > 0 {
				checkErr(t, "Commit", v.Commit(nil), api.ErrDown)
				checkErr(t, "Commit", v.Commit(make([]byte, left*most)), api.ErrDown)
				checkErr(t, "Commit", v.Commit(make([]byte, left*most+1)), api.ErrFull)
			}
			checkErr(t, "Seal", v.Seal(nil), api.ErrDown)
			checkErr(t, "Seal", v.Seal(make([]byte, n/2*most)), api.ErrDown)
			checkErr(t, "Seal", v.Seal(make([]byte, n/2*most+1)), api.ErrFull)
			checkVault(t, v, n, left, turn)
			checkLies(t, d, lies)
		}
		d.Up()
		checkVault(t, v, n, left, turn)
		checkLies(t, d, lies)
	}
}

// P11.1: two vaults on two devices know nothing of each other.
func TestTwoVaults(t *testing.T) {
	a, b := made(t, 8), made(t, 12)
	v, w := formatted(t, a, "x"), formatted(t, b, "y")
	mustCommit(t, v, "a")
	mustSeal(t, w, "z")
	mustCommit(t, w, some(1, 90))
	checkVault(t, v, 8, 2, 1)
	checkVault(t, w, 12, 3, 2)
	checkLies(t, a, whole(8, 0, 1, "x", "a"))
	checkLies(t, b, whole(12, 1, 2, "z", some(1, 90)))
}
