package device

import (
	"bytes"
	"fmt"
	"math"
	"math/bits"
	"math/rand"
	"slices"
	"strings"
	"testing"

	"catacomb/api"
)

const (
	size = 64          // of a sector
	all  = ^uint64(0)  // a crash's keep: every writing that waits
	none = uint64(0)   // no one
	no   = -1          // a crash's torn: no writing is
	most = 8192        // sectors of a device
	last = math.MaxInt // the greatest number
	low  = math.MinInt // the least one
)

// beyond are numbers that are no sector of a device of so many.
func beyond(n int) []int {
	return []int{n, n + 1, n + 63, 64 * n, most + n, 1<<31 - 1, 1 << 31, 1 << 32, 1<<32 + 1, 1 << 62, last - most, last - n, last - 1, last, -1, -2, -n, -n - 1, -64, -1 << 32, low / 2, low + n, low + 1, low}
}

// filled is a sector's bytes: those of a text, and 0 behind them.
func filled(s string) string { return s + strings.Repeat("\x00", size-len(s)) }

// full is a sector of one letter.
func full(letter string) string { return strings.Repeat(letter, size) }

// short tells bytes without their ends of 0.
func short(b string) string {
	if len(b) > 400 {
		return fmt.Sprintf("%.80q.. (%d bytes)", b, len(b))
	}
	return fmt.Sprintf("%q", strings.TrimRight(b, "\x00"))
}

// put is a writing, as plain counts it.
type put struct {
	at   int
	data string
}

// plain is a device as the chapter tells it, of texts: what is read is looked for each time.
type plain struct {
	lies  []string
	waits []put
	down  bool
	after int
	crash func()
}

func newPlain(n int) *plain { return &plain{lies: slices.Repeat([]string{filled("")}, n)} }

// read is the last writing of a sector.
func (p *plain) read(at int) string {
	for _, w := range slices.Backward(p.waits) {
		if w.at == at {
			return w.data
		}
	}
	return p.lies[at]
}

func (p *plain) told() string {
	s := ""
	for at := range p.lies {
		s += p.read(at)
	}
	return s
}

func (p *plain) image() string { return strings.Join(p.lies, "") }

func (p *plain) write(at int, b string) api.Errno {
	if p.down {
		return api.ErrDown
	}
	if at < 0 || at >= len(p.lies) {
		return api.ErrRange
	}
	if len(b) > size {
		return api.ErrLong
	}
	p.waits = append(p.waits, put{at, filled(b)})
	if p.crash == nil {
		return api.OK
	}
	if p.after--; p.after > 0 {
		return api.OK
	}
	p.crash()
	return api.ErrDown
}

func (p *plain) flush() api.Errno {
	if p.down {
		return api.ErrDown
	}
	for _, w := range p.waits {
		p.lies[w.at] = w.data
	}
	p.waits = nil
	return api.OK
}

// fall is a crash.
func (p *plain) fall(keep uint64, torn, n int) {
	kept := bits.Reverse64(keep)
	for i, w := range p.waits {
		first := kept>>63 == 1
		kept = bits.RotateLeft64(kept, 1)
		switch {
		case !first:
		case i == torn && n <= 0:
		case i == torn && n < size:
			p.lies[w.at] = w.data[:n] + p.lies[w.at][n:]
		default:
			p.lies[w.at] = w.data
		}
	}
	p.waits, p.down, p.crash = nil, true, nil
}

func (p *plain) arm(after int, keep uint64, torn, n int) {
	p.after, p.crash = after, nil
	if after >= 1 {
		p.crash = func() { p.fall(keep, torn, n) }
	}
}

func (p *plain) up() { p.down, p.crash = false, nil }

// made is a new device.
func made(t *testing.T, n int) *Device {
	t.Helper()
	d, e := New(n)
	if d == nil || e != api.OK {
		t.Fatalf("New(%d): %v, error %d", n, d, e)
	}
	return d
}

// lying is a device whose sectors hold a letter each, a, b and so on, flushed.
func lying(t *testing.T, n int) *Device {
	t.Helper()
	d := made(t, n)
	for at := range n {
		mustWrite(t, d, at, full(string(rune('a'+at%26))))
	}
	mustFlush(t, d)
	return d
}

func checkErr(t *testing.T, what string, got, want api.Errno) {
	t.Helper()
	if got != want {
		t.Errorf("%s: error %d, want %d", what, got, want)
	}
}

func checkWrite(t *testing.T, d *Device, at int, b string, want api.Errno) {
	t.Helper()
	if got := d.Write(at, []byte(b)); got != want {
		t.Errorf("Write(%d) of %d bytes: error %d, want %d", at, len(b), got, want)
	}
}

func mustWrite(t *testing.T, d *Device, at int, b string) {
	t.Helper()
	checkWrite(t, d, at, b, api.OK)
}

func mustFlush(t *testing.T, d *Device) {
	t.Helper()
	checkErr(t, "Flush", d.Flush(), api.OK)
}

// checkRead holds what is read against bytes.
func checkRead(t *testing.T, d *Device, from, n int, want string) {
	t.Helper()
	got, e := d.Read(from, n)
	if string(got) != want || e != api.OK {
		t.Errorf("Read(%d, %d): %s, error %d; want %s, 0", from, n, short(string(got)), e, short(want))
	}
}

// checkNoRead holds that nothing is read, and why.
func checkNoRead(t *testing.T, d *Device, from, n int, want api.Errno) {
	t.Helper()
	if got, e := d.Read(from, n); len(got) != 0 || e != want {
		t.Errorf("Read(%d, %d): %d bytes, error %d; want none, %d", from, n, len(got), e, want)
	}
}

// checkSector holds a sector, as it is read.
func checkSector(t *testing.T, d *Device, at int, want string) {
	t.Helper()
	checkRead(t, d, at, 1, want)
}

func checkImage(t *testing.T, d *Device, want string) {
	t.Helper()
	got := string(d.Image())
	if len(got) != len(want) {
		t.Errorf("Image: %d bytes, want %d", len(got), len(want))
		return
	}
	for at := 0; at < len(got); at += size {
		if got[at:at+size] != want[at:at+size] {
			t.Errorf("Image: sector %d is %s, want %s", at/size, short(got[at:at+size]), short(want[at:at+size]))
		}
	}
}

// waits are those that wait, as they are told.
func waits(d *Device) [][2]int {
	var l [][2]int
	for i, at := range d.Waits() {
		l = append(l, [2]int{i, at})
	}
	return l
}

// checkWaits holds the sectors of those that wait.
func checkWaits(t *testing.T, d *Device, sectors ...int) {
	t.Helper()
	var want [][2]int
	for i, at := range sectors {
		want = append(want, [2]int{i, at})
	}
	if got := waits(d); !slices.Equal(got, want) {
		t.Errorf("Waits: %v, want %v", got, want)
	}
}

func checkDown(t *testing.T, d *Device, want bool) {
	t.Helper()
	if got := d.Down(); got != want {
		t.Errorf("Down: %t, want %t", got, want)
	}
}

// checkFallen holds that a device is down, and that nothing waits.
func checkFallen(t *testing.T, d *Device) {
	t.Helper()
	checkDown(t, d, true)
	checkWaits(t, d)
	checkNoRead(t, d, 0, 1, api.ErrDown)
}

// checkBack holds what lies in a device behind a crash, and that this, too, is read when it is up.
func checkBack(t *testing.T, d *Device, want string) {
	t.Helper()
	checkFallen(t, d)
	checkImage(t, d, want)
	d.Up()
	checkDown(t, d, false)
	checkWaits(t, d)
	checkImage(t, d, want)
	checkRead(t, d, 0, d.Len(), want)
}

// checkPlain holds all that a device tells against plain.
func checkPlain(t *testing.T, d *Device, p *plain) {
	t.Helper()
	n := len(p.lies)
	var sectors []int
	for _, w := range p.waits {
		sectors = append(sectors, w.at)
	}
	checkWaits(t, d, sectors...)
	checkImage(t, d, p.image())
	checkDown(t, d, p.down)
	if got := d.Len(); got != n {
		t.Errorf("Len: %d, want %d", got, n)
	}
	if p.down {
		checkNoRead(t, d, 0, n, api.ErrDown)
		return
	}
	checkRead(t, d, 0, n, p.told())
	for at := range n {
		checkSector(t, d, at, p.read(at))
	}
}

// P8.1: a torn writing: its first byte, and behind it the old ones.
func TestExample(t *testing.T) {
	d := made(t, 1)
	mustWrite(t, d, 0, full("a"))
	mustFlush(t, d)
	mustWrite(t, d, 0, full("b"))
	d.Crash(1, 0, 1)
	checkBack(t, d, "b"+full("a")[1:])
}

// P8.1: how many sectors there may be; in the beginning all are 0.
func TestNew(t *testing.T) {
	for _, n := range []int{1, 2, 3, 63, 64, 65, 4096, most - 1, most} {
		d := made(t, n)
		checkNew(t, d, n)
	}
	if api.MaxSectors != most || api.Sector != size {
		t.Error("the limits are other ones")
	}
}

// checkNew holds a new device of so many sectors, whose ends are then asked and written.
func checkNew(t *testing.T, d *Device, n int) {
	t.Helper()
	if got := d.Len(); got != n {
		t.Errorf("Len: %d, want %d", got, n)
	}
	checkDown(t, d, false)
	checkWaits(t, d)
	checkImage(t, d, strings.Repeat("\x00", n*size))
	checkRead(t, d, 0, n, strings.Repeat("\x00", n*size))
	checkSector(t, d, n-1, filled(""))
	checkNoRead(t, d, n, 1, api.ErrRange)
	checkNoRead(t, d, 0, n+1, api.ErrRange)
	checkWrite(t, d, n, "x", api.ErrRange)
	mustWrite(t, d, n-1, full("x"))
	mustFlush(t, d)
	checkImage(t, d, strings.Repeat("\x00", (n-1)*size)+full("x"))
}

// P8.1: no such numbers of sectors.
func TestNewErrors(t *testing.T) {
	for _, n := range []int{0, -1, -2, -64, -most, -1 << 31, -1 << 32, 1 - 1<<32, low, low + 1, low + most, most + 1, most + 2, 2 * most, 1 << 20, 1<<31 - 1, 1 << 31, 1 << 32, 1<<32 + 1, 1<<58 + 1, 1 << 62, last - 1, last} {
		if d, e := New(n); d != nil || e != api.ErrArg {
			t.Errorf("New(%d): %v, error %d; want nil, %d", n, d, e, api.ErrArg)
		}
	}
}

// P8.1: two devices are apart.
func TestNewOnes(t *testing.T) {
	a, b := made(t, 3), made(t, 3)
	mustWrite(t, a, 1, full("x"))
	mustFlush(t, a)
	mustWrite(t, a, 2, full("y"))
	checkPlain(t, b, newPlain(3))
	a.Crash(all, no, 0)
	checkPlain(t, b, newPlain(3))
}

// P8.1: all pieces of a device that there are, and those around its ends.
func TestRead(t *testing.T) {
	for n := 1; n <= 6; n++ {
		d := lying(t, n)
		whole := string(d.Image())
		for from := -3; from <= n+3; from++ {
			for k := -3; k <= n+3; k++ {
				if from < 0 || k < 0 || from+k > n {
					checkNoRead(t, d, from, k, api.ErrRange)
				} else {
					checkRead(t, d, from, k, whole[from*size:(from+k)*size])
				}
			}
		}
	}
}

// P8.1: no sectors are read from 0 to Len on, and no farther.
func TestReadNone(t *testing.T) {
	for _, n := range []int{1, 2, 5, 64, most} {
		d := made(t, n)
		for _, from := range []int{0, 1, n / 2, n - 1, n} {
			checkRead(t, d, from, 0, "")
		}
		for _, from := range beyond(n)[1:] {
			checkNoRead(t, d, from, 0, api.ErrRange)
		}
	}
}

// P8.1: the last sector, one more than there are, and numbers whose sum goes round.
func TestReadEdges(t *testing.T) {
	for _, n := range []int{2, 4, 64, most} {
		d := lying(t, n)
		whole := string(d.Image())
		checkRead(t, d, n-1, 1, whole[(n-1)*size:])
		checkRead(t, d, 0, n, whole)
		checkNoRead(t, d, n-1, 2, api.ErrRange)
		checkNoRead(t, d, 1, n, api.ErrRange)
		checkNoRead(t, d, n, 1, api.ErrRange)
		for _, x := range beyond(n) {
			for _, y := range append(beyond(n), 1, n-1) {
				checkNoRead(t, d, x, y, api.ErrRange)
				checkNoRead(t, d, y, x, api.ErrRange)
			}
		}
		for _, x := range beyond(n)[1:] {
			checkNoRead(t, d, 0, x, api.ErrRange)
		}
	}
}

// P8.1: rows of all lengths, over a sector that is full: the rest is 0.
func TestWriteLengths(t *testing.T) {
	text := strings.Repeat("0123456789abcdef", 5)
	for n := range size + 1 {
		d := lying(t, 3)
		mustWrite(t, d, 1, text[:n])
		checkRead(t, d, 0, 3, full("a")+filled(text[:n])+full("c"))
		checkWaits(t, d, 1)
		mustFlush(t, d)
		checkImage(t, d, full("a")+filled(text[:n])+full("c"))
		checkWaits(t, d)
	}
	for _, n := range []int{size + 1, size + 2, 80} {
		d := lying(t, 3)
		checkWrite(t, d, 1, text[:n], api.ErrLong)
		checkRead(t, d, 0, 3, full("a")+full("b")+full("c"))
		checkWaits(t, d)
	}
}

// P8.1: nil, and bytes of all values.
func TestWriteBytes(t *testing.T) {
	d := lying(t, 5)
	checkErr(t, "Write of nil", d.Write(4, nil), api.OK)
	checkSector(t, d, 4, filled(""))
	var whole []byte
	for at := range 4 {
		b := make([]byte, size)
		for i := range b {
			b[i] = byte(at*size + i)
		}
		whole = append(whole, b...)
		mustWrite(t, d, at, string(b))
	}
	checkRead(t, d, 0, 5, string(whole)+filled(""))
	checkWaits(t, d, 4, 0, 1, 2, 3)
	mustFlush(t, d)
	checkImage(t, d, string(whole)+filled(""))
}

// P8.1: an error leaves all as it was; which one comes first.
func TestWriteErrors(t *testing.T) {
	long := strings.Repeat("x", size+1)
	for _, n := range []int{1, 3, 64} {
		d := lying(t, n)
		mustWrite(t, d, 0, "w")
		was, image := waits(d), string(d.Image())
		read, _ := d.Read(0, n)
		for _, at := range beyond(n) {
			for _, b := range []string{"", "x", full("x"), long, strings.Repeat("x", 5000)} {
				checkWrite(t, d, at, b, api.ErrRange)
			}
		}
		for _, b := range []string{long, strings.Repeat("x", 2*size), strings.Repeat("x", 65536+1)} {
			checkWrite(t, d, 0, b, api.ErrLong)
			checkWrite(t, d, n-1, b, api.ErrLong)
		}
		if got := waits(d); !slices.Equal(got, was) {
			t.Errorf("Waits behind errors: %v, want %v", got, was)
		}
		checkImage(t, d, image)
		checkRead(t, d, 0, n, string(read))
	}
}

// P8.1: a sector written twice: the last one is read, ahead of a flush and behind it.
func TestWrittenTwice(t *testing.T) {
	d := lying(t, 2)
	mustWrite(t, d, 1, full("x"))
	checkSector(t, d, 1, full("x"))
	mustWrite(t, d, 1, "yz")
	checkSector(t, d, 1, filled("yz"))
	checkWaits(t, d, 1, 1)
	checkImage(t, d, full("a")+full("b"))
	mustFlush(t, d)
	checkRead(t, d, 0, 2, full("a")+filled("yz"))
	checkImage(t, d, full("a")+filled("yz"))
	mustWrite(t, d, 1, full("v"))
	mustWrite(t, d, 0, full("u"))
	mustWrite(t, d, 1, "")
	checkRead(t, d, 0, 2, full("u")+filled(""))
	checkImage(t, d, full("a")+filled("yz"))
	mustFlush(t, d)
	checkImage(t, d, full("u")+filled(""))
}

// P8.1: a flush of nothing, and one behind another.
func TestFlush(t *testing.T) {
	d := lying(t, 2)
	mustFlush(t, d)
	mustFlush(t, d)
	checkRead(t, d, 0, 2, full("a")+full("b"))
	mustWrite(t, d, 0, full("x"))
	mustFlush(t, d)
	mustFlush(t, d)
	checkWaits(t, d)
	d.Crash(none, no, 0)
	checkBack(t, d, full("x")+full("b"))
}

// P8.1: what was flushed is there behind a crash, whatever that keeps or tears.
func TestFlushedStays(t *testing.T) {
	for _, keep := range []uint64{none, 1, 2, all} {
		for torn := -1; torn < 3; torn++ {
			for _, n := range []int{0, 1, 63, 64} {
				d := lying(t, 2)
				mustWrite(t, d, 0, "x")
				mustWrite(t, d, 1, "y")
				mustFlush(t, d)
				d.Crash(keep, torn, n)
				checkBack(t, d, filled("x")+filled("y"))
			}
		}
	}
}

// P8.1: the image hasn't what waits; behind a flush it has.
func TestImage(t *testing.T) {
	d := made(t, 4)
	zero := strings.Repeat("\x00", 4*size)
	for at := range 4 {
		mustWrite(t, d, at, full("x"))
		checkImage(t, d, zero)
		checkSector(t, d, at, full("x"))
	}
	mustFlush(t, d)
	checkImage(t, d, strings.Repeat("x", 4*size))
	mustWrite(t, d, 2, "y")
	checkImage(t, d, strings.Repeat("x", 4*size))
	d.Crash(none, no, 0)
	checkImage(t, d, strings.Repeat("x", 4*size))
}

// P8.1: those that wait, from 0 on; behind a flush they begin anew.
func TestWaits(t *testing.T) {
	d := made(t, 9)
	checkWaits(t, d)
	want := []int{4, 4, 0, 8, 4, 0, 7, 7, 7}
	for i, at := range want {
		mustWrite(t, d, at, "x")
		checkWaits(t, d, want[:i+1]...)
	}
	mustFlush(t, d)
	checkWaits(t, d)
	mustWrite(t, d, 3, "x")
	mustWrite(t, d, 3, "x")
	checkWaits(t, d, 3, 3)
	d.Crash(all, no, 0)
	checkWaits(t, d)
	d.Up()
	checkWaits(t, d)
	mustWrite(t, d, 8, "x")
	checkWaits(t, d, 8)
}

// P8.1: a writing that writes what lies there already waits like others.
func TestWaitsOfSame(t *testing.T) {
	d := lying(t, 2)
	mustWrite(t, d, 0, full("a"))
	mustWrite(t, d, 0, full("a"))
	checkWaits(t, d, 0, 0)
}

// P8.1: what waits may be told in part, and again from 0 on.
func TestWaitsInPart(t *testing.T) {
	d := made(t, 3)
	sectors := []int{2, 0, 0, 1, 2}
	for _, at := range sectors {
		mustWrite(t, d, at, "x")
	}
	it := d.Waits()
	for stop := range len(sectors) + 1 {
		n := 0
		it(func(i, at int) bool {
			if i != n || at != sectors[i] {
				t.Errorf("told %d, %d; want %d, %d", i, at, n, sectors[n])
			}
			n++
			return n < stop
		})
		if want := max(stop, 1); n != want {
			t.Errorf("told up to the %d-th: %d were told", want, n)
		}
	}
	for range 3 {
		n := 0
		for i, at := range it {
			if i != n || at != sectors[i] {
				t.Errorf("told again: %d, %d; want %d, %d", i, at, n, sectors[n])
			}
			n++
		}
		if n != len(sectors) {
			t.Errorf("told again: %d, want %d", n, len(sectors))
		}
	}
	checkWaits(t, d, sectors...)
}

// P8.1: a device may be told anything while it is gone through.
func TestWaitsMeanwhile(t *testing.T) {
	for what, do := range map[string]func(*Device){
		"Flush": func(d *Device) { d.Flush() },
		"Write": func(d *Device) { d.Write(2, nil) },
		"Crash": func(d *Device) { d.Crash(all, 0, 9) },
		"Up":    func(d *Device) { d.Up() },
		"Waits": func(d *Device) { waits(d) },
		"Arm":   func(d *Device) { d.Arm(1, all, 0, 0); d.Write(0, nil) },
	} {
		d := made(t, 3)
		for at := range 3 {
			mustWrite(t, d, at, "x")
		}
		n := 0
		for range d.Waits() {
			do(d)
			if n++; n > 100 {
				t.Fatalf("%s: it doesn't end", what)
			}
		}
		d.Up()
		mustFlush(t, d)
		checkWaits(t, d)
	}
}

// P8.1: which writings a crash keeps: each bit of keep, which comes round again behind 64 writings.
func TestCrashKeeps(t *testing.T) {
	for _, n := range []int{1, 2, 63, 64, 65, 127, 128, 129, 200} {
		for bit := range 64 {
			d := made(t, n)
			one, others := "", ""
			for at := range n {
				mustWrite(t, d, at, full("x"))
				if at%64 == bit {
					one, others = one+full("x"), others+filled("")
				} else {
					one, others = one+filled(""), others+full("x")
				}
			}
			c := d.Copy()
			d.Crash(1<<bit, no, 0)
			checkBack(t, d, one)
			c.Crash(^(uint64(1) << bit), no, 0)
			checkBack(t, c, others)
		}
	}
}

// P8.1: all of more than 64 writings are kept, or none.
func TestCrashAllOrNone(t *testing.T) {
	for _, n := range []int{1, 64, 65, 300} {
		d := made(t, n)
		for at := range n {
			mustWrite(t, d, at, full("x"))
		}
		c := d.Copy()
		d.Crash(all, no, 0)
		checkBack(t, d, strings.Repeat("x", n*size))
		c.Crash(none, no, 0)
		checkBack(t, c, strings.Repeat("\x00", n*size))
	}
}

// P8.1: keep's bits count writings, not sectors.
func TestCrashCountsWritings(t *testing.T) {
	d := lying(t, 4)
	for _, w := range []put{{3, "p"}, {3, "q"}, {1, "r"}, {3, "s"}, {0, "t"}} {
		mustWrite(t, d, w.at, w.data)
	}
	d.Crash(0b00110, no, 0)
	checkBack(t, d, full("a")+filled("r")+full("c")+filled("q"))
}

// P8.1: in their order: of several of one sector the last one that is kept lies there.
func TestCrashInOrder(t *testing.T) {
	for keep := range uint64(16) {
		d := lying(t, 2)
		want := full("b")
		for i, x := range []string{"p", "q", "r", "s"} {
			mustWrite(t, d, 1, full(x))
			if keep>>i&1 == 1 {
				want = full(x)
			}
		}
		d.Crash(keep, no, 0)
		checkBack(t, d, full("a")+want)
	}
}

// P8.1: so many bytes of the torn one: 0 to 64, and beyond.
func TestTornBytes(t *testing.T) {
	numbers := []int{low, low + 1, low / 2, -1 << 32, -65, -64, -2, -1, size + 1, size + 2, 128, 256, 256 + 1, 1 << 31, 1 << 32, 1<<32 + 1, 1 << 62, last - 1, last}
	for n := range size + 1 {
		numbers = append(numbers, n)
	}
	for _, n := range numbers {
		cut := min(max(n, 0), size)
		d := lying(t, 3)
		for at, x := range []string{"x", "y", "z"} {
			mustWrite(t, d, at, full(x))
		}
		d.Crash(all, 1, n)
		checkBack(t, d, full("x")+full("y")[:cut]+full("b")[cut:]+full("z"))
	}
}

// P8.1: of a short row, the bytes 0 behind it are written as well.
func TestTornShort(t *testing.T) {
	for n := range size + 1 {
		d := lying(t, 1)
		mustWrite(t, d, 0, "xyz")
		d.Crash(all, 0, n)
		checkBack(t, d, filled("xyz")[:n]+full("a")[n:])
	}
}

// P8.1: a torn one that isn't kept writes nothing.
func TestTornNotKept(t *testing.T) {
	for _, n := range []int{low, -1, 0, 1, 32, 63, 64, 65, last} {
		d := lying(t, 3)
		for at := range 3 {
			mustWrite(t, d, at, full("x"))
		}
		d.Crash(0b101, 1, n)
		checkBack(t, d, full("x")+full("b")+full("x"))
	}
}

// P8.1: the torn one is just that one, wherever it waits, be it the 64-th or farther on; other numbers are none.
func TestTornPlaces(t *testing.T) {
	for _, torn := range []int{0, 1, 2, 62, 63, 64, 65, 66, 127, 128, 129, 191, 192, 199, 200, 201, 264, 1<<32 + 1, last - 1, last, -1, -2, -63, -64, -200, -1 << 32, low, low + 1} {
		const n = 200
		d := made(t, n)
		want := ""
		for at := range n {
			mustWrite(t, d, at, full("x"))
			if at == torn {
				want += filled("xxxxx")
			} else {
				want += full("x")
			}
		}
		d.Crash(all, torn, 5)
		checkBack(t, d, want)
	}
}

// P8.1: behind the 64-th the bits come round, the torn one doesn't.
func TestTornFarOn(t *testing.T) {
	for _, keep := range []uint64{1, 2, 3, 1 << 63, all, none} {
		for _, torn := range []int{0, 1, 63, 64, 65, 127, 128} {
			const n = 140
			d, p := made(t, n), newPlain(n)
			for at := range n {
				mustWrite(t, d, at, full("x"))
				p.write(at, full("x"))
			}
			d.Crash(keep, torn, 9)
			p.fall(keep, torn, 9)
			checkBack(t, d, p.image())
		}
	}
}

// P8.1: a torn one over one that is kept: behind its first bytes are those of the one ahead; one behind it covers it.
func TestTornOverOthers(t *testing.T) {
	d := lying(t, 2)
	for _, x := range []string{"p", "q", "r"} {
		mustWrite(t, d, 1, full(x))
	}
	for _, x := range []struct {
		keep uint64
		torn int
		want string
	}{
		{0b111, 2, full("r")[:10] + full("q")[10:]},
		{0b101, 2, full("r")[:10] + full("p")[10:]},
		{0b100, 2, full("r")[:10] + full("b")[10:]},
		{0b011, 1, full("q")[:10] + full("p")[10:]},
		{0b010, 1, full("q")[:10] + full("b")[10:]},
		{0b011, 2, full("q")},
		{0b111, 1, full("r")},
		{0b111, 0, full("r")},
		{0b001, 0, full("p")[:10] + full("b")[10:]},
		{0b001, 1, full("p")},
		{0b000, 0, full("b")},
	} {
		c := d.Copy()
		c.Crash(x.keep, x.torn, 10)
		checkBack(t, c, full("a")+x.want)
	}
}

// P8.1: each function of a device that is down, and Up.
func TestDown(t *testing.T) {
	d := lying(t, 3)
	mustWrite(t, d, 1, full("x"))
	d.Crash(none, no, 0)
	long := strings.Repeat("x", size+1)
	for _, from := range append(beyond(3), 0, 1, 2, 3) {
		for _, n := range append(beyond(3), 0, 1, 2, 3) {
			checkNoRead(t, d, from, n, api.ErrDown)
		}
		for _, b := range []string{"", "y", long} {
			checkWrite(t, d, from, b, api.ErrDown)
		}
	}
	checkErr(t, "Flush", d.Flush(), api.ErrDown)
	checkErr(t, "Flush", d.Flush(), api.ErrDown)
	if got := d.Len(); got != 3 {
		t.Errorf("Len: %d, want 3", got)
	}
	d.Crash(all, 0, 64)
	c := d.Copy()
	checkFallen(t, c)
	for _, x := range []*Device{d, c} {
		checkBack(t, x, full("a")+full("b")+full("c"))
		mustWrite(t, x, 2, full("z"))
		checkWaits(t, x, 2)
		checkSector(t, x, 2, full("z"))
		mustFlush(t, x)
		checkImage(t, x, full("a")+full("b")+full("z"))
	}
}

// P8.1: a crash of a device without writings: it is down.
func TestCrashOfNothing(t *testing.T) {
	for _, keep := range []uint64{none, 1, all} {
		for _, torn := range []int{low, -1, 0, 1, last} {
			for _, n := range []int{low, 0, 64, last} {
				d := lying(t, 2)
				d.Crash(keep, torn, n)
				checkBack(t, d, full("a")+full("b"))
			}
		}
	}
}

// P8.1: Up of a device that is up leaves what waits.
func TestUpOfOneUp(t *testing.T) {
	d := lying(t, 2)
	mustWrite(t, d, 1, full("x"))
	d.Up()
	checkDown(t, d, false)
	checkWaits(t, d, 1)
	checkSector(t, d, 1, full("x"))
	checkImage(t, d, full("a")+full("b"))
	mustFlush(t, d)
	checkImage(t, d, full("a")+full("x"))
}

// P8.1: several crashes, one behind another.
func TestCrashes(t *testing.T) {
	d := lying(t, 1)
	want := full("a")
	for i := range 40 {
		x := full(string(rune('A' + i%26)))
		mustWrite(t, d, 0, x)
		d.Crash(all, 0, i)
		want = x[:i] + want[i:]
		checkBack(t, d, want)
	}
}

// P8.2: the last one of so many writings is answered with ErrDown, and counts among those that wait.
func TestArm(t *testing.T) {
	for after := 1; after <= 150; after++ {
		for _, torn := range []int{no, 0, after - 1, after} {
			d := made(t, after)
			d.Arm(after, all, torn, 3)
			want := ""
			for at := range after {
				checkDown(t, d, false)
				e := api.OK
				if at == after-1 {
					e = api.ErrDown
				}
				checkWrite(t, d, at, full("x"), e)
				if at == torn {
					want += filled("xxx")
				} else {
					want += full("x")
				}
			}
			checkBack(t, d, want)
		}
	}
}

// P8.2: the last one is kept, torn or lost by its own place among those that wait.
func TestArmLast(t *testing.T) {
	for _, x := range []struct {
		keep    uint64
		torn, n int
		want    string
	}{
		{0b100, no, 0, full("a") + full("b") + full("z")},
		{0b011, no, 0, full("x") + full("y") + full("c")},
		{0b111, 2, 7, full("x") + full("y") + "zzzzzzz" + full("c")[7:]},
		{0b011, 2, 7, full("x") + full("y") + full("c")},
		{0b111, 2, -1, full("x") + full("y") + full("c")},
		{0b111, 2, 65, full("x") + full("y") + full("z")},
		{0b111, 0, 1, "x" + full("a")[1:] + full("y") + full("z")},
		{0b000, 0, 1, full("a") + full("b") + full("c")},
	} {
		d := lying(t, 3)
		mustWrite(t, d, 0, full("x"))
		d.Arm(2, x.keep, x.torn, x.n)
		mustWrite(t, d, 1, full("y"))
		checkWaits(t, d, 0, 1)
		checkRead(t, d, 0, 3, full("x")+full("y")+full("c"))
		checkWrite(t, d, 2, full("z"), api.ErrDown)
		checkBack(t, d, x.want)
	}
}

// P8.2: flushes don't count, but what they wrote waits no more.
func TestArmAndFlush(t *testing.T) {
	d := lying(t, 3)
	d.Arm(3, 1, 0, 4)
	mustWrite(t, d, 0, full("x"))
	mustFlush(t, d)
	mustFlush(t, d)
	mustWrite(t, d, 1, full("y"))
	mustFlush(t, d)
	mustFlush(t, d)
	checkWrite(t, d, 2, full("z"), api.ErrDown)
	checkBack(t, d, full("x")+full("y")+"zzzz"+full("c")[4:])
}

// P8.2: only writings that were taken count.
func TestArmCountsTaken(t *testing.T) {
	d := lying(t, 2)
	d.Arm(2, all, no, 0)
	long := strings.Repeat("x", size+1)
	for range 5 {
		checkWrite(t, d, 2, "x", api.ErrRange)
		checkWrite(t, d, -1, "x", api.ErrRange)
		checkWrite(t, d, 0, long, api.ErrLong)
		d.Read(0, 2)
		d.Read(0, 3)
		d.Image()
		d.Len()
		d.Down()
		waits(d)
		d.Copy().Write(0, nil)
	}
	mustWrite(t, d, 0, full("x"))
	checkWrite(t, d, 2, "x", api.ErrRange)
	checkWrite(t, d, 0, long, api.ErrLong)
	checkDown(t, d, false)
	checkWrite(t, d, 0, full("y"), api.ErrDown)
	checkBack(t, d, full("y")+full("b"))
}

// P8.2: below 1 no writing crashes it; what was armed ahead is armed no more.
func TestArmNone(t *testing.T) {
	for _, after := range []int{0, -1, -2, -1 << 32, low, low + 1} {
		for _, ahead := range []int{0, 1, 2} {
			d := lying(t, 2)
			if ahead > 0 {
				d.Arm(ahead, all, no, 0)
			}
			d.Arm(after, none, 0, 0)
			checkDown(t, d, false)
			for range 100 {
				mustWrite(t, d, 1, full("x"))
			}
			mustFlush(t, d)
			checkImage(t, d, full("a")+full("x"))
		}
	}
}

// P8.2: numbers near the greatest one: no writing here is the last one.
func TestArmFar(t *testing.T) {
	for _, after := range []int{1000, 1 << 31, 1 << 32, 1<<32 + 1, 1 << 62, last - 1, last} {
		d := lying(t, 2)
		d.Arm(after, none, last, low)
		for range 999 {
			mustWrite(t, d, 1, full("x"))
		}
		mustFlush(t, d)
		checkImage(t, d, full("a")+full("x"))
	}
}

// P8.2: what is armed last counts, from then on.
func TestArmAgain(t *testing.T) {
	d := lying(t, 2)
	d.Arm(2, none, no, 0)
	mustWrite(t, d, 0, full("x"))
	d.Arm(3, 0b1001, 3, 5)
	mustWrite(t, d, 1, full("y"))
	mustWrite(t, d, 1, full("z"))
	checkWrite(t, d, 1, full("w"), api.ErrDown)
	checkBack(t, d, full("x")+"wwwww"+full("b")[5:])

	d.Arm(9, none, no, 0)
	d.Arm(1, all, no, 0)
	checkWrite(t, d, 0, full("v"), api.ErrDown)
	checkDown(t, d, true)
}

// P8.2: behind the crash that was armed, nothing is.
func TestArmOnce(t *testing.T) {
	d := lying(t, 2)
	d.Arm(1, all, no, 0)
	checkWrite(t, d, 0, full("x"), api.ErrDown)
	checkWrite(t, d, 0, full("y"), api.ErrDown)
	d.Up()
	for range 100 {
		mustWrite(t, d, 1, full("z"))
	}
	mustFlush(t, d)
	checkImage(t, d, full("x")+full("z"))
}

// P8.2: another crash disarms, and so does Up, be it up or down.
func TestDisarm(t *testing.T) {
	for what, do := range map[string]func(*Device){
		"Crash":         func(d *Device) { d.Crash(all, no, 0) },
		"Up":            func(d *Device) { d.Up() },
		"Arm when down": func(d *Device) { d.Crash(none, no, 0); d.Arm(1, all, 0, 0) },
		"Arm and Crash": func(d *Device) { d.Crash(none, no, 0); d.Arm(2, all, 0, 0); d.Crash(all, no, 0) },
	} {
		for after := 1; after <= 3; after++ {
			d := lying(t, 2)
			d.Arm(after, none, 0, 0)
			do(d)
			d = d.Copy()
			d.Up()
			for range 10 {
				if e := d.Write(1, []byte(full("x"))); e != api.OK || d.Down() {
					t.Fatalf("%s: error %d, down %t", what, e, d.Down())
				}
			}
			mustFlush(t, d)
			checkImage(t, d, full("a")+full("x"))
		}
	}
}

// P8.2: a device that is armed and crashes ahead of it has the crash that came, not the one that was armed.
func TestCrashAheadOfArmed(t *testing.T) {
	d := lying(t, 2)
	d.Arm(2, all, 0, 1)
	mustWrite(t, d, 0, full("x"))
	d.Crash(none, no, 0)
	checkWrite(t, d, 1, full("y"), api.ErrDown)
	checkBack(t, d, full("a")+full("b"))
}

// P8.1, P8.2: a copy has what is armed, with what is left of it; both crash by themselves.
func TestCopyOfArmed(t *testing.T) {
	d := lying(t, 2)
	d.Arm(3, 0b101, 2, 6)
	mustWrite(t, d, 0, full("x"))
	c := d.Copy()
	far := d.Copy()
	mustWrite(t, c, 0, full("u"))
	checkWrite(t, c, 1, full("v"), api.ErrDown)
	checkBack(t, c, full("x")+"vvvvvv"+full("b")[6:])

	far.Arm(0, 0, 0, 0)
	for range 9 {
		mustWrite(t, far, 0, full("f"))
	}

	checkDown(t, d, false)
	checkWaits(t, d, 0)
	mustWrite(t, d, 0, full("p"))
	checkWrite(t, d, 1, full("q"), api.ErrDown)
	checkBack(t, d, full("x")+"qqqqqq"+full("b")[6:])
	checkDown(t, far, false)
}

// P8.1: a copy tells all that the one that it is of does, and both go on apart.
func TestCopy(t *testing.T) {
	d := lying(t, 3)
	mustWrite(t, d, 0, full("x"))
	mustWrite(t, d, 0, full("y"))
	mustWrite(t, d, 2, "z")
	for what, do := range map[string]func(*Device){
		"Write":   func(d *Device) { d.Write(0, []byte("n")); d.Write(1, []byte("n")) },
		"Flush":   func(d *Device) { d.Flush() },
		"Crash":   func(d *Device) { d.Crash(0b001, 0, 9) },
		"Up":      func(d *Device) { d.Crash(all, no, 0); d.Up(); d.Write(1, []byte("n")) },
		"Arm":     func(d *Device) { d.Arm(1, all, no, 0); d.Write(1, []byte("n")) },
		"all":     func(d *Device) { d.Flush(); d.Write(0, nil); d.Flush(); d.Crash(none, no, 0) },
		"nothing": func(*Device) {},
	} {
		a := d.Copy()
		b := a.Copy()
		do(a)
		checkCopied(t, what+" of the one", b)
		b = b.Copy()
		c := b.Copy()
		do(c)
		checkCopied(t, what+" of the copy", b)
	}
	checkCopied(t, "the first one", d)
}

// checkCopied holds what a device that TestCopy copied tells.
func checkCopied(t *testing.T, what string, d *Device) {
	t.Helper()
	t.Log(what)
	checkWaits(t, d, 0, 0, 2)
	checkDown(t, d, false)
	checkImage(t, d, full("a")+full("b")+full("c"))
	checkRead(t, d, 0, 3, full("y")+full("b")+filled("z"))
	if d.Len() != 3 {
		t.Errorf("Len: %d, want 3", d.Len())
	}
	c := d.Copy()
	c.Crash(0b101, 0, 1)
	checkBack(t, c, "x"+full("a")[1:]+full("b")+filled("z"))
}

// P8.1: what is written to copies, and to the one that they are of, shares no room.
func TestCopyOfRoom(t *testing.T) {
	for n := range 40 {
		d := made(t, 64)
		var want []int
		for i := range n {
			mustWrite(t, d, i, "x")
			want = append(want, i)
		}
		a, b := d.Copy(), d.Copy()
		mustWrite(t, a, 61, "a")
		mustWrite(t, b, 62, "b")
		mustWrite(t, d, 63, "d")
		checkWaits(t, a, append(slices.Clone(want), 61)...)
		checkWaits(t, b, append(slices.Clone(want), 62)...)
		checkWaits(t, d, append(slices.Clone(want), 63)...)
		mustFlush(t, a)
		mustFlush(t, b)
		mustFlush(t, d)
		checkRead(t, a, 61, 3, filled("a")+filled("")+filled(""))
		checkRead(t, b, 61, 3, filled("")+filled("b")+filled(""))
		checkRead(t, d, 61, 3, filled("")+filled("")+filled("d"))
	}
}

// P8.2: each function of a nil device.
func TestNil(t *testing.T) {
	var d *Device
	numbers := append(beyond(1), 0, 1)
	for range 2 {
		for _, x := range numbers {
			for _, y := range numbers {
				checkNoRead(t, d, x, y, api.ErrDown)
			}
			checkErr(t, "Write", d.Write(x, nil), api.ErrDown)
			checkErr(t, "Write", d.Write(x, []byte("x")), api.ErrDown)
			checkErr(t, "Write", d.Write(x, make([]byte, size+1)), api.ErrDown)
			d.Crash(all, x, x)
			d.Arm(x, all, x, x)
		}
		checkErr(t, "Flush", d.Flush(), api.ErrDown)
		checkDown(t, d, true)
		checkWaits(t, d)
		if it := d.Waits(); it == nil {
			t.Error("Waits: nil")
		}
		if n := d.Len(); n != 0 {
			t.Errorf("Len: %d, want 0", n)
		}
		if b := d.Image(); len(b) != 0 {
			t.Errorf("Image: %d bytes, want none", len(b))
		}
		if c := d.Copy(); c != nil {
			t.Errorf("Copy: %v, want nil", c)
		}
		d.Up()
	}
}

// P8.3: a row that was handed in is as it was, and the room around it, too; it may be changed behind the call.
func TestHandedInStays(t *testing.T) {
	for n := range size + 20 {
		room := []byte(strings.Repeat("0123456789", 30))
		was := bytes.Clone(room)
		d := lying(t, 2)
		for _, b := range [][]byte{room[:n], room[50 : 50+n], room[50 : 50+n : 50+n]} {
			e := d.Write(1, b)
			if want := n > size; want != (e == api.ErrLong) {
				t.Errorf("Write of %d bytes: error %d", n, e)
			}
			mustFlush(t, d)
			d.Write(0, b)
			d.Crash(all, 0, 5)
			d.Up()
		}
		if !bytes.Equal(room, was) {
			t.Errorf("a row of %d bytes, or the room around it, is changed", n)
		}
	}
}

// P8.3: a row isn't kept, waiting, flushed, armed or copied.
func TestHandedInIsNotKept(t *testing.T) {
	for n := range size + 1 {
		b := []byte(strings.Repeat("x", n))
		want := filled(string(b))
		d := lying(t, 2)
		checkErr(t, "Write", d.Write(1, b), api.OK)
		c := d.Copy()
		for i := range b {
			b[i] = 'n'
		}
		checkSector(t, d, 1, want)
		mustFlush(t, d)
		checkImage(t, d, full("a")+want)
		c.Crash(all, no, 0)
		checkBack(t, c, full("a")+want)
		clear(b)
		d.Crash(none, no, 0)
		checkBack(t, d, full("a")+want)
	}
}

// P8.3: answers may be changed, cleared and filled up, without one another and without the device.
func TestAnswersAreNew(t *testing.T) {
	d := lying(t, 3)
	mustWrite(t, d, 1, full("x"))
	image, told := full("a")+full("b")+full("c"), full("a")+full("x")+full("c")
	calls := map[string]func() []byte{
		"Image":      d.Image,
		"Read":       func() []byte { b, _ := d.Read(0, 3); return b },
		"one":        func() []byte { b, _ := d.Read(1, 1); return b },
		"none":       func() []byte { b, _ := d.Read(1, 0); return b },
		"first two":  func() []byte { b, _ := d.Read(0, 2); return b },
		"copy's":     func() []byte { return d.Copy().Image() },
		"copy reads": func() []byte { b, _ := d.Copy().Read(0, 3); return b },
	}
	for what, call := range calls {
		was := string(call())
		one, two := call(), call()
		for i := range one {
			one[i] = 'n'
		}
		one = append(one, "nnnnnnnnnnnnnnnnnnnnnnnnnnnnnnnnnnnnnnnnnnnnnnnnnnnnnnnnnnnnnnnnnnnn"...)
		clear(one[:cap(one)])
		if string(two) != was {
			t.Errorf("%s: an answer is changed by another one", what)
		}
		for i := range two[:cap(two)] {
			two[:cap(two)][i] = 'm'
		}
		checkImage(t, d, image)
		checkRead(t, d, 0, 3, told)
		checkWaits(t, d, 1)
	}
	c := d.Copy()
	mustFlush(t, d)
	checkImage(t, d, told)
	c.Crash(none, no, 0)
	checkBack(t, c, image)
}

// P8.3: what was told stays, whatever is done to the device then.
func TestAnswersStay(t *testing.T) {
	d := lying(t, 3)
	mustWrite(t, d, 1, full("x"))
	image := d.Image()
	read, _ := d.Read(0, 3)
	for at := range 3 {
		mustWrite(t, d, at, full("n"))
	}
	mustFlush(t, d)
	mustWrite(t, d, 2, full("m"))
	d.Crash(all, 0, 20)
	d.Up()
	mustWrite(t, d, 0, "")
	if got := string(image); got != full("a")+full("b")+full("c") {
		t.Errorf("an image is changed with the device: %s", short(got))
	}
	if got := string(read); got != full("a")+full("x")+full("c") {
		t.Errorf("bytes that were read are changed with the device: %s", short(got))
	}
}

// P8.3: what waits, once asked for, isn't of the device any more.
func TestWaitsStay(t *testing.T) {
	d := made(t, 9)
	for _, at := range []int{3, 1, 3} {
		mustWrite(t, d, at, "x")
	}
	it := d.Waits()
	mustFlush(t, d)
	for at := range 9 {
		mustWrite(t, d, at, "x")
	}
	d.Crash(all, no, 0)
	var got []int
	for _, at := range it {
		got = append(got, at)
	}
	if !slices.Equal(got, []int{3, 1, 3}) {
		t.Errorf("told behind other writings: %v, want [3 1 3]", got)
	}
}

// some is a row by chance, now and then too long.
func some(r *rand.Rand) string {
	b := make([]byte, r.Intn(size+3))
	if r.Intn(3) == 0 {
		b = make([]byte, size)
	}
	for i := range b {
		b[i] = byte(1 + r.Intn(255))
	}
	return string(b)
}

// step does one thing by chance to a device and to plain, and holds their answers against one another.
func step(t *testing.T, r *rand.Rand, d *Device, p *plain) {
	t.Helper()
	keep, torn, n := r.Uint64(), r.Intn(12)-2, r.Intn(size+9)-4
	switch r.Intn(40) {
	case 0:
		checkErr(t, "Flush", d.Flush(), p.flush())
	case 1:
		d.Crash(keep, torn, n)
		p.fall(keep, torn, n)
	case 2, 3, 4:
		d.Up()
		p.up()
	case 5, 6:
		after := r.Intn(9) - 1
		d.Arm(after, keep, torn, n)
		p.arm(after, keep, torn, n)
	default:
		at, b := r.Intn(len(p.lies)+2)-1, some(r)
		checkWrite(t, d, at, b, p.write(at, b))
	}
}

// P8.1, P8.2: devices by chance, held against plain behind each step; a copy goes on as they do.
func TestChance(t *testing.T) {
	for seed := range int64(150) {
		r := rand.New(rand.NewSource(seed))
		n := 1 + r.Intn(6)
		d, p := made(t, n), newPlain(n)
		for range 300 {
			if r.Intn(50) == 0 {
				d = d.Copy()
			}
			step(t, r, d, p)
			checkPlain(t, d, p)
			if t.Failed() {
				t.Fatalf("seed %d", seed)
			}
		}
	}
}

// P8.1: the greatest device, with more writings than sectors.
func TestGreatest(t *testing.T) {
	r := rand.New(rand.NewSource(1))
	d, p := made(t, most), newPlain(most)
	var sectors []int
	for range 3 * most {
		at, b := r.Intn(most), full(string(rune('a'+r.Intn(26))))
		mustWrite(t, d, at, b)
		p.write(at, b)
		sectors = append(sectors, at)
	}
	checkWaits(t, d, sectors...)
	checkImage(t, d, p.image())
	newest := slices.Clone(p.lies)
	for _, w := range p.waits {
		newest[w.at] = w.data
	}
	checkRead(t, d, 0, most, strings.Join(newest, ""))
	c := d.Copy()
	mustFlush(t, c)
	checkImage(t, c, strings.Join(newest, ""))
	d.Crash(0x0123456789abcdef, 3*most-1, 7)
	p.fall(0x0123456789abcdef, 3*most-1, 7)
	checkBack(t, d, p.image())
}
