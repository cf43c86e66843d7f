package hash

import (
	"bytes"
	"crypto/sha256"
	"encoding/hex"
	"fmt"
	"math/rand"
	"slices"
	"strings"
	"testing"
)

// edges are lengths around those at which a block is full, or its last one has no room for the length.
func edges() []int {
	return []int{0, 1, 2, 3, 4, 5, 8, 31, 32, 33, 54, 55, 56, 57, 62, 63, 64, 65, 118, 119, 120, 121, 126, 127, 128, 129,
		183, 184, 191, 192, 193, 247, 248, 255, 256, 257, 511, 512, 513, 1000, 4095, 4096, 4097}
}

// some is so many bytes without a rule, the same ones each time.
func some(n int) []byte {
	b := make([]byte, n)
	rand.New(rand.NewSource(int64(n) + 1)).Read(b)
	return b
}

// other is bytes of which every bit is another one.
func other(b []byte) []byte {
	l := bytes.Clone(b)
	for i := range l {
		l[i] = ^l[i]
	}
	return l
}

// written is a state of pieces.
func written(pieces ...[]byte) *State {
	s := New()
	for _, b := range pieces {
		s.Write(b)
	}
	return s
}

// checkDigest holds a digest against that of the bytes, as the library has it.
func checkDigest(t *testing.T, what string, got Digest, b []byte) {
	t.Helper()
	if want := Digest(sha256.Sum256(b)); got != want {
		t.Errorf("%s: %x, want %x", what, got, want)
	}
}

// checkSigns holds a digest against its signs.
func checkSigns(t *testing.T, what string, got Digest, want string) {
	t.Helper()
	if s := hex.EncodeToString(got[:]); s != want {
		t.Errorf("%s: %s, want %s", what, s, want)
	}
}

const (
	ofNothing = "e3b0c44298fc1c149afbf4c8996fb92427ae41e4649b934ca495991b7852b855"
	ofABC     = "ba7816bf8f01cfea414140de5dae2223b00361a396177a9cb410ff61f20015ad"
)

// P5.1
func TestExample(t *testing.T) {
	s := fmt.Sprintf("%x", Sum([]byte("abc")))
	if !strings.HasPrefix(s, "ba7816bf8f01cfea") || !strings.HasSuffix(s, "f20015ad") {
		t.Error(s)
	}
}

// P5.1: digests that are known by themselves, from the standard's examples.
func TestSumKnown(t *testing.T) {
	for _, x := range []struct {
		piece string
		times int
		want  string
	}{
		{"", 0, ofNothing},
		{"abc", 1, ofABC},
		{"abcdbcdecdefdefgefghfghighijhijkijkljklmklmnlmnomnopnopq", 1,
			"248d6a61d20638b8e5c026930c3e6039a33ce45964ff2167f6ecedd419db06c1"},
		{"abcdefghbcdefghicdefghijdefghijkefghijklfghijklmghijklmnhijklmnoijklmnopjklmnopqklmnopqrlmnopqrsmnopqrstnopqrstu", 1,
			"cf5b16a778af8380036ce59e7b0492370b249b11e8f07a51afac45037afee9d1"},
		{"\xbd", 1, "68325720aabd7c82f30f554b313d0570c95accbb7dc4b5aae11204c08ffe732b"},
		{"\xc9\x8c\x8e\x55", 1, "7abc22c0ae5af26ce93dbb94433a0e0b2e119d014f8e7f65bd56c61ccccd9504"},
		{"\x00", 55, "02779466cdec163811d078815c633f21901413081449002f24aa3e80f0b88ef7"},
		{"\x00", 56, "d4817aa5497628e7c77e6b606107042bbba3130888c5f47a375e6179be789fbb"},
		{"\x00", 57, "65a16cb7861335d5ace3c60718b5052e44660726da4cd13bb745381b235a1785"},
		{"\x00", 64, "f5a5fd42d16a20302798ef6ed309979b43003d2320d9f0e8ea9831a92759fb4b"},
		{"\x00", 1000, "541b3e9daa09b20bf85fa273e5cbd3e80185aa4ec298e765db87742b70138a53"},
		{"A", 1000, "c2e686823489ced2017f6059b8b239318b6364f6dcd835d0a519105a1eadd6e4"},
		{"U", 1005, "f4d62ddec0f3dd90ea1380fa16a5ff8dc4c54b21740650f24afc4120903552b0"},
		{"\x00", 1000000, "d29751f2649b32ff572b5e0a9f541ea660a50f94ff0beedfb0b692b924cc8025"},
		{"a", 1000000, "cdc76e5c9914fb9281a1c7e284d73e67f1809a48a497200e046d39ccc7112cd0"},
	} {
		b := bytes.Repeat([]byte(x.piece), x.times)
		what := fmt.Sprintf("%q, %d times", x.piece, x.times)
		checkSigns(t, "Sum of "+what, Sum(b), x.want)
		checkSigns(t, "Write of "+what, written(b).Sum(), x.want)
	}
}

// P5.1: nil and no bytes are the same; a new state is of nothing.
func TestNothing(t *testing.T) {
	checkSigns(t, "Sum(nil)", Sum(nil), ofNothing)
	checkSigns(t, "Sum of no bytes", Sum([]byte{}), ofNothing)
	checkSigns(t, "Sum of no bytes of a row", Sum([]byte("abc")[:0]), ofNothing)
	checkSigns(t, "New", New().Sum(), ofNothing)
	checkSigns(t, "Write(nil)", written(nil, []byte{}, nil).Sum(), ofNothing)
	checkSigns(t, "Copy of a new state", New().Copy().Sum(), ofNothing)
}

// P5.1
func TestNilState(t *testing.T) {
	var s *State
	for range 2 {
		s.Write(nil)
		s.Write([]byte("abc"))
		s.Write(some(200))
		checkSigns(t, "Sum of a nil state", s.Sum(), ofNothing)
		if c := s.Copy(); c != nil {
			t.Errorf("Copy of a nil state: %v", c)
		}
	}
	checkSigns(t, "New behind writings to a nil state", New().Sum(), ofNothing)
}

// P5.1: every length of some blocks, of bytes with all bits, none, and some.
func TestSumLengths(t *testing.T) {
	for n := range 1100 {
		for _, b := range [][]byte{some(n), make([]byte, n), other(make([]byte, n)), bytes.Repeat([]byte{0x80}, n)} {
			what := fmt.Sprintf("%d bytes", n)
			checkDigest(t, "Sum of "+what, Sum(b), b)
			checkDigest(t, "Write of "+what, written(b).Sum(), b)
		}
	}
}

// P5.1: the length has more than 32 bits of its own.
func TestSumLong(t *testing.T) {
	piece := bytes.Repeat([]byte("Z"), 1<<20)
	s := New()
	for range 1 << 9 {
		s.Write(piece)
	}
	checkSigns(t, "2^29 bytes", s.Sum(), "15a1868c12cc53951e182344277447cd0979536badcc512ad24c67e9b2d4f3dd")
}

// P5.2: each bit of each byte counts, and so do the places of the bytes, and how many there are.
func TestEveryBit(t *testing.T) {
	for _, n := range []int{1, 3, 55, 56, 63, 64, 65, 119, 120, 127, 128, 130} {
		b := some(n)
		seen := map[Digest]bool{Sum(b): true, Sum(b[1:]): true, Sum(b[:n-1]): true, Sum(append(bytes.Clone(b), 0)): true}
		want := len(seen)
		for i := range n * 8 {
			b[i/8] ^= 1 << (i % 8)
			d := Sum(b)
			checkDigest(t, fmt.Sprintf("%d bytes with bit %d changed", n, i), d, b)
			seen[d] = true
			want++
			b[i/8] ^= 1 << (i % 8)
		}
		if len(seen) != want {
			t.Errorf("%d bytes: %d digests of %d rows", n, len(seen), want)
		}
	}
}

// P5.1, P5.2: byte by byte; Sum, asked twice between two writings, tells what was written so far, and the state stays.
func TestSumBetween(t *testing.T) {
	b := some(400)
	s, quiet := New(), New()
	for i := range b {
		what := fmt.Sprintf("the first %d, one by one", i)
		checkDigest(t, what, s.Sum(), b[:i])
		checkDigest(t, what+", again", s.Sum(), b[:i])
		s.Write(b[i : i+1])
		quiet.Write(b[i : i+1])
	}
	checkDigest(t, "one by one, asked between", s.Sum(), b)
	checkDigest(t, "one by one, never asked", quiet.Sum(), b)
}

// P5.1: the whole state is the same behind a Sum as ahead of it, at each place in a block.
func TestSumStays(t *testing.T) {
	for n := range 200 {
		// What stood in the block ahead of what is left is there to be spoiled.
		s := written(other(make([]byte, 128)), some(n))
		was := *s
		s.Sum()
		s.Copy()
		if *s != was {
			t.Errorf("behind 128 and %d bytes Sum changes the state: %v, was %v", n, *s, was)
		}
	}
}

// P5.2: two pieces of all lengths; three ones that end inside a block, at its end and behind it.
func TestPieces(t *testing.T) {
	b := some(330)
	for i := range len(b) + 1 {
		checkDigest(t, fmt.Sprintf("pieces up to %d, and to the end", i), written(b[:i], b[i:]).Sum(), b)
		checkDigest(t, fmt.Sprintf("pieces up to %d, and none behind", i), written(b[:i], nil, []byte{}).Sum(), b[:i])
		for j := i; j <= len(b); j++ {
			s := written(b[:i], b[i:j], b[j:])
			checkDigest(t, fmt.Sprintf("pieces up to %d, %d, and to the end", i, j), s.Sum(), b)
		}
	}
}

// P5.2: pieces of one length each, and pieces of no bytes among them.
func TestEvenPieces(t *testing.T) {
	b := some(2000)
	for n := 1; n <= 200; n++ {
		s, gaps := New(), New()
		for piece := range slices.Chunk(b, n) {
			s.Write(piece)
			gaps.Write(nil)
			gaps.Write(piece)
			gaps.Write([]byte{})
			gaps.Write(piece[:0])
		}
		checkDigest(t, fmt.Sprintf("pieces of %d", n), s.Sum(), b)
		checkDigest(t, fmt.Sprintf("pieces of %d, and of none", n), gaps.Sum(), b)
	}
}

// P5.2: pieces by chance, Sum and Copy asked by chance between them.
func TestChancePieces(t *testing.T) {
	r := rand.New(rand.NewSource(5))
	for range 3000 {
		b := some(r.Intn(700))
		s := New()
		for from := 0; from < len(b); {
			to := min(len(b), from+r.Intn(1+r.Intn(150)))
			s.Write(b[from:to])
			from = to
			switch r.Intn(4) {
			case 0:
				checkDigest(t, fmt.Sprintf("%d of %d bytes", from, len(b)), s.Sum(), b[:from])
			case 1:
				s = s.Copy()
			case 2:
				s.Copy().Write(some(r.Intn(99)))
			}
		}
		checkDigest(t, fmt.Sprintf("%d bytes in pieces", len(b)), s.Sum(), b)
	}
}

// P5.1: a copy goes on with other bytes, and the state beside it; a copy of the copy, too.
func TestCopy(t *testing.T) {
	for _, n := range edges() {
		for _, more := range []int{0, 1, 7, 55, 56, 63, 64, 65, 129} {
			b, x := some(n), some(more)
			y, z := other(x), bytes.Repeat([]byte{7}, more+1)
			what := fmt.Sprintf("%d bytes and %d: ", n, more)
			s := written(b)
			c := s.Copy()
			checkDigest(t, what+"a copy", c.Sum(), b)
			s.Write(x)
			checkDigest(t, what+"a copy, the state gone on", c.Sum(), b)
			c.Write(y)
			d := c.Copy()
			d.Write(z)
			checkDigest(t, what+"the state, the copies gone on", s.Sum(), slices.Concat(b, x))
			checkDigest(t, what+"a copy gone on", c.Sum(), slices.Concat(b, y))
			checkDigest(t, what+"a copy of the copy gone on", d.Sum(), slices.Concat(b, y, z))
			s.Write(z)
			c.Write(x)
			checkDigest(t, what+"the state further on", s.Sum(), slices.Concat(b, x, z))
			checkDigest(t, what+"a copy further on", c.Sum(), slices.Concat(b, y, x))
		}
	}
}

// P5.1: states don't share anything with one another.
func TestApart(t *testing.T) {
	b, x := some(150), other(some(150))
	s, beside := New(), New()
	for i := range b {
		s.Write(b[i : i+1])
		beside.Write(x[i : i+1])
		checkDigest(t, "one state", s.Sum(), b[:i+1])
		checkDigest(t, "the other one", beside.Sum(), x[:i+1])
	}
}

// P5.2: neither the bytes nor the spare room behind them are changed.
func TestHandedInStays(t *testing.T) {
	for _, n := range edges() {
		room := some(n + 200)
		was := bytes.Clone(room)
		b := room[:n]
		Sum(b)
		s := written(b, b)
		s.Sum()
		c := s.Copy()
		c.Write(b)
		c.Sum()
		if !bytes.Equal(room, was) {
			t.Errorf("%d bytes, or the room behind them, are changed", n)
		}
	}
}

// P5.2: a row may be changed behind the call.
func TestHandedInIsNotKept(t *testing.T) {
	for _, n := range edges() {
		b := some(n)
		was := bytes.Clone(b)
		s := written(b)
		copy(b, other(b))
		what := fmt.Sprintf("%d bytes, changed behind the call", n)
		checkDigest(t, what, s.Sum(), was)
		s.Write(b)
		clear(b)
		checkDigest(t, what+", and again", s.Sum(), slices.Concat(was, other(was)))
	}
}

// P5.1: a digest is the caller's own.
func TestDigestIsNew(t *testing.T) {
	s := written([]byte("abc"))
	d := s.Sum()
	clear(d[:])
	checkSigns(t, "Sum behind a digest that was cleared", s.Sum(), ofABC)
	s.Write([]byte("d"))
	checkSigns(t, "the digest behind a Write", d, strings.Repeat("00", 32))
	e := Sum(nil)
	clear(e[:])
	checkSigns(t, "Sum(nil) behind a digest that was cleared", Sum(nil), ofNothing)
	checkSigns(t, "New behind a digest that was cleared", New().Sum(), ofNothing)
}
