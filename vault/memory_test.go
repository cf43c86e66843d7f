package vault_test

import (
	"fmt"
	"math/rand"
	"slices"
	"testing"

	"catacomb/api"
	"catacomb/device"
	"catacomb/vault"
)

// past is a vault of a device of n sectors, of which so much was done by chance that the next turn is the last but one.
// It answers whether it came to that.
func past(t *testing.T, r *rand.Rand, n int, last uint32, crashes bool) (*device.Device, *vault.Vault, bool) {
	t.Helper()
	d := made(t, n)
	v := formatted(t, d, some(r.Intn(99), r.Intn(n/2*most)))
	for v.Turn() < last-1 {
		if crashes && r.Intn(3) == 0 {
			d.Arm(1+r.Intn(2*n), r.Uint64()|r.Uint64(), r.Intn(n), r.Intn(size+1))
		}
		e := api.OK
		if v.Room() > 0 && r.Intn(3) > 0 {
			e = v.Commit([]byte(some(r.Intn(99), r.Intn(v.Room()))))
		} else {
			e = v.Seal([]byte(some(r.Intn(99), r.Intn(n/2*most))))
		}
		if e != api.OK {
			checkErr(t, "an act", e, api.ErrDown)
		}
		d.Up()
		if e != api.OK && r.Intn(4) > 0 {
			v = opened(t, d)
		}
	}
	return d, v, greatest(string(d.Image())) == last-1
}

// P11.3: devices with other pasts, without crashes, but with the same turn and last image, are the same ones.
func TestPasts(t *testing.T) {
	r := rand.New(rand.NewSource(3))
	for _, n := range []int{8, 9, 14, 31} {
		for last := uint32(2); last < 9; last++ {
			for _, length := range []int{0, 1, 60, n / 2 * most} {
				image := some(5, length)
				for range 8 {
					d, v, _ := past(t, r, n, last, false)
					if r.Intn(2) == 0 {
						v = opened(t, d)
					}
					mustSeal(t, v, image)
					checkVault(t, v, n, n/2-cost(image), last)
					checkLies(t, d, whole(n, int(last+1)%2, last, image))
				}
			}
		}
	}
}

// P11.3: likewise where crashes lay between; only in which half it is hangs on them.
func TestPastsWithCrashes(t *testing.T) {
	r := rand.New(rand.NewSource(4))
	const last = 12
	for _, n := range []int{8, 9, 14, 31} {
		for _, length := range []int{0, 60, n / 2 * most} {
			image := some(5, length)
			came := map[int]int{}
			for range 400 {
				d, v, ok := past(t, r, n, last, true)
				if !ok {
					continue
				}
				mustSeal(t, v, image)
				half := plainOpen(string(d.Image())).half
				came[half]++
				checkVault(t, v, n, n/2-cost(image), last)
				checkLies(t, d, whole(n, half, last, image))
			}
			if came[0]+came[1] < 20 || came[none] > 0 {
				t.Errorf("%d sectors: %v", n, came)
			}
		}
	}
}

// P11.3: what was on the device ahead of it all is gone too, also where it is in no half.
func TestPastsBehindGrounds(t *testing.T) {
	for _, n := range []int{8, 9, 30, 31} {
		for what, ground := range grounds(n) {
			d := holding(t, ground)
			lay(t, d, n-1, row(20, 3, true, what))
			v := formatted(t, d, what)
			checkLies(t, d, whole(n, 0, 21, what))
			put(t, d, n-1, row(2, 3, true, "again"))
			lay(t, d, n/2, ground[n/2*size:])
			mustSeal(t, v, "last")
			checkLies(t, d, whole(n, 1, 22, "last"))
			lay(t, d, n-1, row(7, 3, true, "again"))
			mustSeal(t, opened(t, d), "last")
			checkLies(t, d, whole(n, 0, 23, "last"))
		}
	}
}

// P11.3: the same crashes behind other contents of the same lengths.
func TestContentsGone(t *testing.T) {
	for _, length := range []int{0, 50, 100, 180} {
		for k := 1; k < 12; k++ {
			for _, c := range crashes([]int{0, 1, 2, 3}, []int{0, 3, 4, 9, 40, 60}) {
				var lies [2]string
				for i := range lies {
					d := made(t, 9)
					v := formatted(t, d, some(10+i, 120))
					mustCommit(t, v, some(20+i, 30))
					d.Arm(k, c.keep, c.torn, c.cut)
					v.Seal([]byte(some(30+i, length)))
					d.Up()
					mustSeal(t, opened(t, d), "last")
					lies[i] = string(d.Image())
				}
				if lies[0] != lies[1] {
					t.Fatalf("an image of %d bytes, a crash at %d %v: the devices differ", length, k, c)
				}
			}
		}
	}
}

// roomy is a row of such bytes, with room behind it, and the whole of it.
func roomy(data string) (part, whole []byte) {
	whole = []byte(data + "the room behind it, that is nobody's but the caller's, and that is so long that whatever is added goes in")
	return whole[:len(data)], whole
}

// checkStays makes a call with a row, holds that it and its room stay, and writes over it.
func checkStays(t *testing.T, what, data string, call func(b []byte)) {
	t.Helper()
	part, whole := roomy(data)
	old := string(whole)
	call(part)
	if string(whole) != old {
		t.Errorf("%s changes the %d bytes that are handed in, or their room", what, len(data))
	}
	for i := range whole {
		whole[i] = 'x'
	}
}

// P11.3: what is handed in stays as it is, the room behind it too, and isn't kept.
func TestHandedIn(t *testing.T) {
	const n = 9
	for _, length := range []int{0, 1, 46, 47, 48, 93, 94, 140, 141, 142, 188, 189, 400} {
		data := some(1, length)
		d := made(t, n)
		var v *vault.Vault
		e := api.OK
		checkStays(t, "Format", data, func(b []byte) { v, e = vault.Format(d, b) })
		if e == api.OK {
			checkLies(t, d, whole(n, 0, 1, data))
		} else {
			v = formatted(t, d, "x")
		}
		lies := plainOpen(string(d.Image()))
		checkStays(t, "Commit", data, func(b []byte) { e = v.Commit(b) })
		if e == api.OK {
			lies = commit(data).behind(lies)
		}
		checkTold(t, "Commit", d, lies)
		checkStays(t, "Seal", data, func(b []byte) { e = v.Seal(b) })
		if e == api.OK {
			lies = state{image: data}
			checkLies(t, d, whole(n, 1, 2, data))
		}
		checkTold(t, "Seal", d, lies)
		d.Crash(0, no, 0)
		for _, what := range []string{"Commit", "Seal"} {
			checkStays(t, what, data, func(b []byte) {
				if what == "Seal" {
					v.Seal(b)
				} else {
					v.Commit(b)
				}
			})
		}
		checkStays(t, "Format", data, func(b []byte) { vault.Format(d, b) })
		d.Up()
		checkTold(t, "once it is up", d, lies)
	}
}

// P11.3: a call amid which a crash comes keeps nothing either.
func TestHandedInAmidCrash(t *testing.T) {
	for k := 1; k < 12; k++ {
		for _, a := range []act{commit(some(1, 90)), seal(some(1, 150)), format(some(1, 150))} {
			d := made(t, 9)
			v := formatted(t, d, "x")
			d.Arm(k, all, no, 0)
			was, now := state{image: "x"}, a.behind(state{image: "x"})
			checkStays(t, "a call", a.data, func(b []byte) {
				switch a.kind {
				case 'c':
					v.Commit(b)
				case 's':
					v.Seal(b)
				default:
					vault.Format(d, b)
				}
			})
			d.Up()
			checkTold(t, fmt.Sprintf("%q, a crash at %d", a.kind, k), d, was, now)
		}
	}
}

// spoil changes a row, its room too, and adds to it.
func spoil(b []byte) {
	whole := b[:cap(b)]
	for i := range whole {
		whole[i] ^= 255
	}
	_ = append(b, "more, and more than goes into the room behind it"...)
}

// P11.3: of two calls' answers, and of the image and the changes of one, one may be changed, or added to, without the other.
func TestAnswersApart(t *testing.T) {
	told := []string{some(0, 100)}
	d := made(t, 60)
	v := formatted(t, d, told[0])
	for i, length := range []int{0, 1, 47, 48, 94, 95, 0, 46, 200, 3} {
		told = append(told, some(i, length))
		mustCommit(t, v, told[i+1])
	}
	lies := string(d.Image())
	open := func() [][]byte {
		_, image, changes, e := vault.Open(d)
		checkErr(t, "Open", e, api.OK)
		return append([][]byte{image}, changes...)
	}
	for i := range told {
		one, other := open(), open()
		spoil(one[i])
		one[i] = []byte(told[i])
		if !slices.Equal(texts(one), told) {
			t.Errorf("of one answer another part hangs on the part %d", i)
		}
		if !slices.Equal(texts(other), told) {
			t.Errorf("another answer hangs on the part %d of one", i)
		}
	}
	_, image, changes, _ := vault.Open(d)
	_, _, others, _ := vault.Open(d)
	_ = append(changes, []byte("more"))
	clear(changes[:cap(changes)])
	if string(image) != told[0] || !slices.Equal(texts(others), told[1:]) {
		t.Errorf("an image, or another answer, hangs on the list of one's changes")
	}
	checkLies(t, d, lies)
	checkOpen(t, d, 1, told[0], told[1:]...)
}

// P11.3: an answer stays as it is, whatever becomes of the device.
func TestAnswersStay(t *testing.T) {
	d := made(t, 12)
	v := formatted(t, d, some(1, 60))
	mustCommit(t, v, "a")
	_, image, changes, _ := vault.Open(d)
	mustCommit(t, v, "b")
	mustSeal(t, v, "other")
	formatted(t, d, some(2, 200))
	if string(image) != some(1, 60) || !slices.Equal(texts(changes), []string{"a"}) {
		t.Errorf("an answer became %q, %q", image, texts(changes))
	}
}

// P11.3: the device that is handed in is the vault's; a copy of it is none of its.
func TestDeviceIsKept(t *testing.T) {
	d := made(t, 8)
	v := formatted(t, d, "x")
	c := d.Copy()
	mustCommit(t, v, "a")
	checkLies(t, c, whole(8, 0, 1, "x"))
	w := opened(t, c)
	mustSeal(t, w, "y")
	checkLies(t, d, whole(8, 0, 1, "x", "a"))
	checkLies(t, c, whole(8, 1, 2, "y"))
	checkVault(t, v, 8, 2, 1)
}
