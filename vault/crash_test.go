package vault_test

import (
	"bytes"
	"fmt"
	"math/rand"
	"slices"
	"strings"
	"testing"

	"catacomb/api"
	"catacomb/device"
	"catacomb/vault"
)

// waits is how many writings wait at most on the devices of these tests: a half's, and one that is no vault's.
const waits = 5

// everyByte is where a writing may be torn.
func everyByte() []int {
	var l []int
	for n := range size + 1 {
		l = append(l, n)
	}
	return l
}

// fewBytes are those in the stamps and the data, and at their ends.
func fewBytes() []int { return []int{0, 3, 4, 8, 9, 30, 59, 60, 61} }

// crash is what one keeps, which writing it tears, and where.
type crash struct {
	keep      uint64
	torn, cut int
}

// crashes is each set that may be kept of such writings, whole and with each one of them torn.
func crashes(waiting []int, cuts []int) []crash {
	l := []crash{{0, no, 0}}
	for set := range 1 << len(waiting) {
		keep := uint64(0)
		for i, at := range waiting {
			keep |= uint64(set>>i&1) << at
		}
		if set > 0 {
			l = append(l, crash{keep, no, 0})
		}
		for _, torn := range waiting {
			if keep>>torn&1 == 0 {
				continue
			}
			for _, n := range cuts {
				l = append(l, crash{keep, torn, n})
			}
		}
	}
	return l
}

// act is a call of Format, Commit or Seal, and what it is made of.
type act struct {
	kind byte
	data string
}

func format(image string) act { return act{'f', image} }

func commit(change string) act { return act{'c', change} }

func seal(image string) act { return act{'s', image} }

// does makes the call; the vault is that of the device from then on.
func (a act) does(d *device.Device, v *vault.Vault) (*vault.Vault, api.Errno) {
	switch a.kind {
	case 'f':
		return vault.Format(d, []byte(a.data))
	case 'c':
		return v, v.Commit([]byte(a.data))
	}
	return v, v.Seal([]byte(a.data))
}

// behind is what is told behind the call.
func (a act) behind(s state) state {
	if a.kind == 'c' {
		return state{image: s.image, changes: append(slices.Clone(s.changes), a.data)}
	}
	return state{image: a.data}
}

// story is a device, and the acts that are done on it, each with OK.
type story struct {
	what   string
	ground *device.Device
	open   bool // a vault that lies there is opened
	acts   []act
}

// tell plays a story.
func (s story) tell(t *testing.T) (*device.Device, *vault.Vault) {
	d := s.ground.Copy()
	var v *vault.Vault
	if s.open {
		v = opened(t, d)
	}
	for _, a := range s.acts {
		var e api.Errno
		if v, e = a.does(d, v); e != api.OK {
			t.Fatalf("%s: error %d", s.what, e)
		}
	}
	return d, v
}

// stories are vaults of 8 and 9 sectors at which a crash may come.
func stories(t *testing.T) []story {
	var l []story
	for _, n := range []int{8, 9} {
		add := func(what string, ground string, open bool, acts ...act) {
			l = append(l, story{fmt.Sprintf("%s, %d sectors", what, n), holding(t, ground), open, acts})
		}
		blank := filled("", n*size)
		two := lying(4, 0x0101, some(1, 50), "a", "b")
		cut := lying(4, 0x0102, some(2, 150))
		add("just formatted", blank, false, format("x"))
		add("with changes", blank, false, format("x"), commit("a"), commit(some(3, 48)))
		add("sealed", blank, false, format("x"), commit("a"), seal(some(3, 60)), commit("b"))
		add("full", blank, false, format(some(3, 120)), commit(some(4, 40)))
		add("opened, the first half", filled(two, n*size), true)
		add("opened, the second half", filled("", 4*size)+filled(two, (n-4)*size), true)
		add("behind a crash in the wiping", filled(lying(4, 0x00ff, some(2, 150))+lying(4, 0x0100, some(1, 50), "c"), n*size), true)
		add("behind a crash in the writing", filled(two+filled("", size)+cut[size:4*size], n*size), true)
		add("behind a torn one", filled(two+cut[:60]+filled("", 4)+cut[size:70], n*size), true)
		add("sealed behind a crash", filled(cut[:2*size]+filled("", 2*size)+two, n*size), true, seal("y"), commit("z"))
	}
	return l
}

// outcome is a device behind a crash, at which writing of an act, and what kind of one it was.
type outcome struct {
	at   int
	bad  crash
	back *device.Device
	v    *vault.Vault // that of which it was an act
}

// crashed plays a story and an act, at whose k-th writing a crash comes; nil: it has no such writing.
func (s story) crashed(t *testing.T, a act, k int, c crash) (*device.Device, *vault.Vault) {
	d, v := s.tell(t)
	d.Arm(k, c.keep, c.torn, c.cut)
	w, e := a.does(d, v)
	if !d.Down() {
		if e != api.OK {
			t.Fatalf("%s, %q: error %d", s.what, a.kind, e)
		}
		return nil, nil
	}
	if e != api.ErrDown || a.kind == 'f' && w != nil {
		t.Fatalf("%s, %q, a crash at %d: error %d, want ErrDown", s.what, a.kind, k, e)
	}
	d.Up()
	return d, w
}

// waitingAt is which writings wait at the k-th one of an act, as far as it makes a difference whether they are kept.
func (s story) waitingAt(t *testing.T, a act, k int) []int {
	var l []int
	lost, _ := s.crashed(t, a, k, crash{0, no, 0})
	for i := range waits {
		kept, _ := s.crashed(t, a, k, crash{1 << i, no, 0})
		if kept != nil && !bytes.Equal(kept.Image(), lost.Image()) {
			l = append(l, i)
		}
	}
	return l
}

// outcomes are all devices that a crash amid an act may leave, each but once; of vaults that are gone on with each one.
func outcomes(t *testing.T, s story, a act, cuts []int, vaults bool) []outcome {
	var l []outcome
	for k := 1; ; k++ {
		seen := map[string]int{}
		for _, c := range crashes(s.waitingAt(t, a, k), cuts) {
			d, v := s.crashed(t, a, k, c)
			if d == nil {
				return l
			}
			lies := string(d.Image())
			seen[lies]++
			if vaults || seen[lies] == 1 {
				l = append(l, outcome{k, c, d, v})
			}
		}
	}
}

// checkTold holds that Open tells one of these, and that it is what lies there.
func checkTold(t *testing.T, what string, d *device.Device, may ...state) state {
	t.Helper()
	got, _, e := toldOf(d)
	plain := plainOpen(string(d.Image()))
	want := api.OK
	if plain.half == none {
		want = api.ErrNone
	}
	if !got.same(plain) || got.turn != plain.turn || e != want {
		t.Fatalf("%s: Open: %v, error %d; want %v, %d", what, got, e, plain, want)
	}
	if !slices.ContainsFunc(may, plain.same) {
		t.Fatalf("%s: Open: %v; may be %v", what, plain, may)
	}
	return plain
}

// nothing is what is told where there is none.
func nothing() state { return state{half: none} }

// checkCrashes tries an act at which a crash comes, in each way; behind it an image is sealed.
func checkCrashes(t *testing.T, s story, a act, cuts []int) {
	t.Helper()
	d, _ := s.tell(t)
	was := plainOpen(string(d.Image()))
	n := d.Len()
	told := map[bool]int{}
	for _, o := range outcomes(t, s, a, cuts, false) {
		what := fmt.Sprintf("%s, %q of %d bytes, a crash at %d %v", s.what, a.kind, len(a.data), o.at, o.bad)
		now := checkTold(t, what, o.back, was, a.behind(was))
		told[now.same(was)]++
		if now.half == none {
			checkVault(t, formatted(t, o.back, "once more"), n, n/2-1, greatest(string(o.back.Image())))
			continue
		}
		turn := greatest(string(o.back.Image())) + 1
		v := opened(t, o.back)
		mustSeal(t, v, some(9, 50))
		checkVault(t, v, n, n/2-2, turn)
		checkLies(t, o.back, whole(n, 1-now.half, turn, some(9, 50)))
		if t.Failed() {
			t.Fatal(what)
		}
	}
	// What crashes at the last writing keep, and what those at the first one don't.
	if told[true] == 0 || told[false] == 0 {
		t.Fatalf("%s, %q: %d times the old one, %d times the new one", s.what, a.kind, told[true], told[false])
	}
}

// P11.2: a crash at every writing of a Commit, with each set kept and each writing torn at every byte.
func TestCrashInCommit(t *testing.T) {
	t.Parallel()
	for _, s := range stories(t) {
		_, v := s.tell(t)
		for _, length := range []int{0, 1, 47, 48, 94, 95, 141} {
			if v.Room() > 0 && length <= v.Room() {
				checkCrashes(t, s, commit(some(5, length)), everyByte())
			}
		}
	}
}

// P11.2: likewise of a Seal, behind Format, behind Open, and behind a crash.
func TestCrashInSeal(t *testing.T) {
	for _, s := range stories(t) {
		t.Run(s.what, func(t *testing.T) {
			t.Parallel()
			for _, length := range []int{0, 48, 141, 188} {
				checkCrashes(t, s, seal(some(6, length)), everyByte())
			}
		})
	}
}

// P11.2: likewise of a Format, over nothing and over vaults: what they have is told, or the new image.
func TestCrashInFormat(t *testing.T) {
	l := stories(t)
	for _, n := range []int{8, 9} {
		l = append(l, story{fmt.Sprintf("nothing, %d sectors", n), made(t, n), false, nil})
	}
	for _, s := range l {
		t.Run(s.what, func(t *testing.T) {
			t.Parallel()
			for _, length := range []int{0, 141, 188} {
				checkCrashes(t, s, format(some(6, length)), fewBytes())
			}
			checkCrashes(t, s, format(some(6, 60)), everyByte())
		})
	}
}

// P11.2: a crash between the calls loses nothing.
func TestCrashBetween(t *testing.T) {
	for _, s := range stories(t) {
		for _, c := range crashes([]int{0, 1, 2}, fewBytes()) {
			d, v := s.tell(t)
			lies := string(d.Image())
			was := plainOpen(lies)
			d.Crash(c.keep, c.torn, c.cut)
			d.Up()
			checkLies(t, d, lies)
			checkTold(t, s.what, d, was)
			if v.Room() > 0 {
				mustCommit(t, v, "more")
				checkTold(t, s.what, d, commit("more").behind(was))
			}
			mustSeal(t, v, "then")
			checkTold(t, s.what, d, state{image: "then"})
		}
	}
}

// P11.2: what waits when the call begins, and what lies below it, changes nothing of what a crash may leave.
func TestCrashOverWaiting(t *testing.T) {
	for _, n := range []int{8, 9} {
		other, own := lying(4, 9, some(1, 50), "c"), lying(4, 5, some(2, 50), "a")
		// What is read is the vault's, but below it lies another one, of a greater turn.
		first, second := holding(t, filled(other+own, n*size)), holding(t, filled(own+other, n*size))
		put(t, first, 0, filled("", 4*size))
		put(t, second, 4, filled("", 4*size))
		for _, a := range []act{seal(some(6, 100)), format(some(6, 100))} {
			for _, d := range []*device.Device{first, second} {
				s := story{fmt.Sprintf("over what waits, %d sectors", n), d, true, nil}
				was := state{image: some(2, 50), changes: []string{"a"}}
				for _, o := range outcomes(t, s, a, fewBytes(), false) {
					checkTold(t, fmt.Sprintf("%s, %q, a crash at %d %v", s.what, a.kind, o.at, o.bad), o.back, was, a.behind(was))
				}
			}
		}
	}
}

// P11.1: Format writes both halves ahead of the image, be they 0 or not; Seal writes the image, then the half that was.
func TestWritings(t *testing.T) {
	for _, n := range []int{8, 9, 30} {
		for _, lies := range []string{filled("", n*size), strings.Repeat("o", n*size)} {
			for k := 1; k <= n/2*2+2; k++ {
				s := story{"nothing", holding(t, lies), false, nil}
				d, _ := s.crashed(t, format(some(1, 60)), k, crash{all, no, 0})
				if d == nil {
					t.Fatalf("%d sectors: Format has just %d writings", n, k-1)
				}
				if k < n/2*2+2 {
					checkTold(t, "Format", d, nothing())
				} else {
					checkTold(t, "Format", d, state{image: some(1, 60)})
				}
			}
		}
		for k := 1; k <= n/2+2; k++ {
			s := story{"a vault", made(t, n), false, []act{format("x")}}
			d, _ := s.crashed(t, seal(some(1, 60)), k, crash{all, no, 0})
			if d == nil {
				t.Fatalf("%d sectors: Seal has just %d writings", n, k-1)
			}
			if k < 2 {
				checkTold(t, "Seal", d, state{image: "x"})
			} else {
				checkTold(t, "Seal", d, state{image: some(1, 60)})
			}
		}
	}
}

// P11.2: one crash behind the other: in the Seal that follows an Open, and in the one behind that.
func TestCrashBehindCrash(t *testing.T) {
	for _, s := range stories(t) {
		t.Run(s.what, func(t *testing.T) {
			t.Parallel()
			d, v := s.tell(t)
			was := plainOpen(string(d.Image()))
			acts := []act{seal(some(6, 100)), format(some(6, 100))}
			if v.Room() > 50 {
				acts = append(acts, commit(some(6, 50)))
			}
			for _, a := range acts {
				for i, o := range outcomes(t, s, a, []int{9, 60}, false) {
					if i%5 != 0 {
						continue
					}
					now := checkTold(t, s.what, o.back, was, a.behind(was))
					next := story{fmt.Sprintf("%s, %q, a crash at %d %v", s.what, a.kind, o.at, o.bad), o.back, true, nil}
					checkSecond(t, next, now)
				}
			}
		})
	}
}

// checkSecond holds what is told behind a crash in the Seal of an opened vault, and behind a Seal then.
func checkSecond(t *testing.T, s story, now state) {
	t.Helper()
	a := seal(some(7, 60))
	for _, o := range outcomes(t, s, a, []int{9, 60}, false) {
		what := fmt.Sprintf("%s; then a crash at %d %v", s.what, o.at, o.bad)
		then := checkTold(t, what, o.back, now, a.behind(now))
		turn := greatest(string(o.back.Image())) + 1
		v := opened(t, o.back)
		mustSeal(t, v, "z")
		checkLies(t, o.back, whole(o.back.Len(), 1-then.half, turn, "z"))
		checkTold(t, what, o.back, state{image: "z"})
	}
}

// P11.1, P11.2: a vault may be gone on with behind a crash amid its Commit: it is as it was, and what it commits then is told.
func TestGoesOnBehindCommit(t *testing.T) {
	for _, s := range stories(t) {
		t.Run(s.what, func(t *testing.T) {
			t.Parallel()
			d, v := s.tell(t)
			was := plainOpen(string(d.Image()))
			for _, length := range []int{0, 48, 100} {
				if length > v.Room()-most {
					continue
				}
				a := commit(some(5, length))
				for _, o := range outcomes(t, s, a, fewBytes(), true) {
					what := fmt.Sprintf("%s, Commit of %d bytes, a crash at %d %v", s.what, length, o.at, o.bad)
					if o.v.Room() != v.Room() || o.v.Turn() != was.turn {
						t.Fatalf("%s: Room %d, Turn %d; want %d, %d", what, o.v.Room(), o.v.Turn(), v.Room(), was.turn)
					}
					checkGoesOn(t, what, o.back, o.v, was)
				}
			}
		})
	}
}

// checkGoesOn holds that a vault does what it did before: first too much, then a change, and one more; or an image.
func checkGoesOn(t *testing.T, what string, d *device.Device, v *vault.Vault, was state) {
	t.Helper()
	lies := string(d.Image())
	room := v.Room()
	checkErr(t, what+": Commit", v.Commit(make([]byte, room+1)), api.ErrFull)
	checkErr(t, what+": Seal", v.Seal(make([]byte, v.Most()+1)), api.ErrFull)
	checkLies(t, d, lies)
	then := was
	for _, change := range []string{"", "B"} {
		if v.Room() == 0 {
			break
		}
		mustCommit(t, v, change)
		then = commit(change).behind(then)
		checkTold(t, what, d, then)
	}
	checkLies(t, d, whole(d.Len(), was.half, was.turn, append([]string{then.image}, then.changes...)...))
	mustSeal(t, v, "y")
	checkLies(t, d, whole(d.Len(), 1-was.half, was.turn+1, "y"))
	if t.Failed() {
		t.Fatal(what)
	}
}

// P11.1, P11.2: likewise behind a crash amid its Seal: either it is as it was, or the image is current, and takes changes.
func TestGoesOnBehindSeal(t *testing.T) {
	for _, s := range stories(t) {
		t.Run(s.what, func(t *testing.T) {
			t.Parallel()
			d, v := s.tell(t)
			was := plainOpen(string(d.Image()))
			a := seal(some(6, 100))
			turn := greatest(string(d.Image())) + 1
			came := map[bool]int{}
			for _, o := range outcomes(t, s, a, fewBytes(), true) {
				what := fmt.Sprintf("%s, Seal, a crash at %d %v", s.what, o.at, o.bad)
				came[o.v.Turn() == turn]++
				if o.v.Turn() == turn {
					checkVault(t, o.v, d.Len(), 1, turn)
					now := checkTold(t, what, o.back, state{image: a.data})
					checkGoesOn(t, what, o.back, o.v, now)
					continue
				}
				if o.v.Room() != v.Room() || o.v.Turn() != was.turn {
					t.Fatalf("%s: Room %d, Turn %d; want %d, %d", what, o.v.Room(), o.v.Turn(), v.Room(), was.turn)
				}
				checkTold(t, what, o.back, was, state{image: a.data})
				if v.Room() > 0 {
					checkGoesOn(t, what, o.back, o.v, was)
					continue
				}
				lies := string(o.back.Image())
				want := api.ErrFull
				if len(s.acts) == 0 {
					want = api.ErrState // it was opened
				}
				checkErr(t, what+": Commit", o.v.Commit(nil), want)
				checkLies(t, o.back, lies)
				mustSeal(t, o.v, "y")
				checkLies(t, o.back, whole(d.Len(), 1-was.half, greatest(lies)+1, "y"))
			}
			if came[true] == 0 || came[false] == 0 {
				t.Errorf("%d times the image is current, %d times it isn't", came[true], came[false])
			}
		})
	}
}

// P11.2: once more a crash, in the Commit with which a vault goes on behind one.
func TestGoesOnTwice(t *testing.T) {
	for _, s := range stories(t) {
		d, v := s.tell(t)
		was := plainOpen(string(d.Image()))
		for _, a := range []act{commit(some(5, 90)), seal(some(6, 100))} {
			if len(a.data) > v.Room() {
				continue
			}
			t.Run(fmt.Sprintf("%s, %q", s.what, a.kind), func(t *testing.T) {
				t.Parallel()
				for k := 1; k <= 16; k++ {
					for _, c := range crashes([]int{0, 1, 2, 3}, []int{9, 60}) {
						goesOnTwice(t, s, a, k, c, was)
					}
				}
			})
		}
	}
}

// goesOnTwice has a crash amid an act, and then one at each writing of a Commit.
func goesOnTwice(t *testing.T, s story, a act, k int, c crash, was state) {
	t.Helper()
	b := commit("B")
	for again := 1; ; again++ {
		d, v := s.tell(t)
		turn := v.Turn()
		d.Arm(k, c.keep, c.torn, c.cut)
		if _, e := a.does(d, v); e != api.ErrDown {
			return
		}
		d.Up()
		base, may := was, []state{was, a.behind(was), b.behind(was)}
		if v.Turn() != turn {
			base = a.behind(was)
			may = []state{base, b.behind(base)}
		}
		// Others that wait are kept than the time before.
		d.Arm(again, ^c.keep, again%waits, 9)
		_, e := b.does(d, v)
		d.Up()
		what := fmt.Sprintf("%s, %q, a crash at %d %v, then at %d", s.what, a.kind, k, c, again)
		if e == api.OK {
			checkTold(t, what, d, b.behind(base))
			return
		}
		checkErr(t, what, e, api.ErrDown)
		checkTold(t, what, d, may...)
		checkErr(t, what, v.Commit([]byte("C")), api.OK)
		checkTold(t, what, d, commit("C").behind(base))
	}
}

// P11.2: whatever comes, by chance, on devices of all sizes; the vault is gone on with, or opened again.
func TestChance(t *testing.T) {
	for seed := range int64(8) {
		t.Run(fmt.Sprint(seed), func(t *testing.T) {
			t.Parallel()
			r := rand.New(rand.NewSource(seed))
			for range 60 {
				chance(t, r)
			}
		})
	}
}

// chance is a vault's life.
func chance(t *testing.T, r *rand.Rand) {
	t.Helper()
	n := 8 + r.Intn(30)
	d := made(t, n)
	v := formatted(t, d, "x")
	now := state{image: "x"}
	told := ""
	for range 60 {
		a := act{pick(r, byte('c'), 'c', 'c', 's', 's', 'f'), some(r.Intn(100), r.Intn(pick(r, 1, 60, 60, n/2*most+1)))}
		if a.kind == 'c' && (v.Room() == 0 || len(a.data) > v.Room()) {
			continue
		}
		if r.Intn(2) == 0 {
			d.Arm(1+r.Intn(2*n), r.Uint64()|r.Uint64(), r.Intn(2*n), r.Intn(size+1))
		}
		was, turn := v, v.Turn()
		w, e := a.does(d, v)
		told += fmt.Sprintf("%c%d:%d ", a.kind, len(a.data), e)
		v = w
		if e == api.OK {
			now = a.behind(now)
		}
		if r.Intn(2) == 0 {
			d.Crash(r.Uint64(), r.Intn(n), r.Intn(size+1))
		}
		d.Up()
		if e == api.OK {
			checkTold(t, told, d, now)
			continue
		}
		checkErr(t, told, e, api.ErrDown)
		lies := checkTold(t, told, d, now, a.behind(now))
		switch {
		case a.kind == 'f' || r.Intn(2) == 0:
			// Another one is opened.
			now = lies
			v = opened(t, d)
			if r.Intn(2) == 0 {
				break
			}
			turn := greatest(string(d.Image())) + 1
			mustSeal(t, v, "again")
			now = state{image: "again"}
			checkLies(t, d, whole(n, 1-lies.half, turn, "again"))
		case v.Turn() != turn:
			// The image was current already.
			now = a.behind(now)
		case was.Room() > 0:
			mustCommit(t, v, "on")
			now = commit("on").behind(now)
			checkTold(t, told, d, now)
		default:
			mustSeal(t, v, "on")
			now = state{image: "on"}
		}
	}
}
