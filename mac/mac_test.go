package mac

import (
	"bytes"
	"crypto/hmac"
	"crypto/sha256"
	"encoding/hex"
	"fmt"
	"math"
	"math/rand"
	"runtime"
	"slices"
	"strings"
	"testing"
	"time"
	"unsafe"

	"catacomb/hash"
)

// lengths are those of keys and of bytes at the edges of a block, and around them.
func lengths() []int {
	return []int{0, 1, 2, 15, 16, 31, 32, 33, 55, 56, 62, 63, 64, 65, 66, 119, 120, 127, 128, 129, 130, 192, 200, 1000, 4096}
}

// names are with no dot, with one, with several, with one at either end, and of any bytes.
func names() []string {
	return []string{"", "a", "acme", "admin", ".", "..", "...", "a.b", "a.b.c", ".a", "a.", ".a.", "a..b", "..a", "a..",
		"a.0123456789abcdef0123456789abcdef", "0123456789abcdef0123456789abcdef", "\x00", "a\x00", "\x00a", "\xff\xfe",
		"\u00e9\u20ac", "a b", "a\nb", strings.Repeat("n", 16), strings.Repeat("n", 64), strings.Repeat("n.", 100)}
}

// some is so many bytes without a rule, the same ones each time.
func some(n int) []byte {
	b := make([]byte, n)
	rand.New(rand.NewSource(int64(n) + 1)).Read(b)
	return b
}

// other is bytes of which every bit is another one.
func other(b []byte) []byte {
	l := bytes.Clone(b)
	for i := range l {
		l[i] = ^l[i]
	}
	return l
}

// code is a code as the library has it.
func code(key, b []byte) hash.Digest {
	m := hmac.New(sha256.New, key)
	m.Write(b)
	return hash.Digest(m.Sum(nil))
}

// token is a token as the chapter tells it, with the library's code.
func token(key []byte, name string) string {
	d := code(key, []byte(name))
	return name + "." + hex.EncodeToString(d[:16])
}

func checkCode(t *testing.T, what string, got, want hash.Digest) {
	t.Helper()
	if got != want {
		t.Errorf("%s: %x, want %x", what, got, want)
	}
}

// checkSame holds what Same answers either way round.
func checkSame(t *testing.T, what string, a, b []byte, want bool) {
	t.Helper()
	if Same(a, b) != want || Same(b, a) != want {
		t.Errorf("%s: Same %v, and the other way round %v, want %v", what, Same(a, b), Same(b, a), want)
	}
}

// checkName holds that a text is the token of a name.
func checkName(t *testing.T, key []byte, text, want string) {
	t.Helper()
	if name, ok := Check(key, text); name != want || !ok {
		t.Errorf("Check of %q with a key of %d bytes: %q, %v, want %q, true", text, len(key), name, ok, want)
	}
}

// checkNone holds that a text is nobody's token.
func checkNone(t *testing.T, key []byte, text string) {
	t.Helper()
	if name, ok := Check(key, text); name != "" || ok {
		t.Errorf("Check of %q with a key of %d bytes: %q, %v, want none", text, len(key), name, ok)
	}
}

// P6.1
func TestExample(t *testing.T) {
	for _, key := range [][]byte{nil, []byte("k"), some(64), some(65)} {
		checkName(t, key, Token(key, "a"), "a")
	}
}

// P6.1: codes that are known by themselves, from RFC 4231 and others.
func TestCodeKnown(t *testing.T) {
	rising := make([]byte, 25)
	for i := range rising {
		rising[i] = byte(i + 1)
	}
	for _, x := range []struct {
		key        []byte
		text, want string
	}{
		{nil, "", "b613679a0814d9ec772f95d778c35fc5ff1697c493715653c6c712144292c5ad"},
		{[]byte("key"), "The quick brown fox jumps over the lazy dog", "f7bc83f430538424b13298e6aa6fb143ef4d59a14946175997479dbc2d1a3cd8"},
		{bytes.Repeat([]byte{0x0b}, 20), "Hi There", "b0344c61d8db38535ca8afceaf0bf12b881dc200c9833da726e9376c2e32cff7"},
		{[]byte("Jefe"), "what do ya want for nothing?", "5bdcc146bf60754e6a042426089575c75a003f089d2739839dec58b964ec3843"},
		{bytes.Repeat([]byte{0xaa}, 20), strings.Repeat("\xdd", 50), "773ea91e36800e46854db8ebd09181a72959098b3ef8c122d9635514ced565fe"},
		{rising, strings.Repeat("\xcd", 50), "82558a389a443c0ea4cc819899f2083a85f0faa3e578f8077a2e3ff46729665b"},
		{bytes.Repeat([]byte{0x0c}, 20), "Test With Truncation", "a3b6167473100ee06e0c796c2955552b"},
		{bytes.Repeat([]byte{0xaa}, 131), "Test Using Larger Than Block-Size Key - Hash Key First", "60e431591ee0b67f0d8a26aacbf5b77f8e0bc6213728c5140546040f0ee37f54"},
		{bytes.Repeat([]byte{0xaa}, 131), "This is a test using a larger than block-size key and a larger than block-size data. The key needs to be hashed before being used by the HMAC algorithm.", "9b09ffa71b942fcb27635fbcd5b0e944bfdc63644f0713938a7f51535c3a35e2"},
	} {
		d := Code(x.key, []byte(x.text))
		if s := hex.EncodeToString(d[:len(x.want)/2]); s != x.want {
			t.Errorf("Code of a key of %d bytes and %q: %s, want %s", len(x.key), x.text, s, x.want)
		}
	}
}

// P6.1: all lengths of keys around one block and two, and bytes of each length at an edge.
func TestCodeLengths(t *testing.T) {
	keys := lengths()
	for n := range 200 {
		keys = append(keys, n)
	}
	for _, k := range keys {
		for _, n := range lengths() {
			for _, key := range [][]byte{some(k), make([]byte, k), other(make([]byte, k))} {
				b := some(n)
				checkCode(t, fmt.Sprintf("a key of %d bytes (%.4x..), %d bytes", k, key, n), Code(key, b), code(key, b))
			}
		}
	}
}

// P6.1: by the chapter's own words, with package hash.
func TestCodeByWords(t *testing.T) {
	for _, k := range lengths() {
		key, b := some(k), some(k+7)
		block := bytes.Clone(key)
		if k > 64 {
			d := hash.Sum(key)
			block = d[:]
		}
		block = append(block, make([]byte, 64-len(block))...)
		in, out := bytes.Clone(block), bytes.Clone(block)
		for i := range block {
			in[i] ^= 0x36
			out[i] ^= 0x5c
		}
		d := hash.Sum(append(in, b...))
		checkCode(t, fmt.Sprintf("a key of %d bytes", k), Code(key, b), hash.Sum(append(out, d[:]...)))
	}
}

// P6.1: a key is filled up with bytes 0, up to 64 and no further; one of more is as its digest.
func TestKeyFilled(t *testing.T) {
	b := []byte("bytes")
	for k := range 64 {
		key := some(k)
		checkCode(t, fmt.Sprintf("a key of %d bytes, filled up", k), Code(append(bytes.Clone(key), make([]byte, 64-k)...), b), Code(key, b))
	}
	for _, k := range []int{65, 66, 127, 128, 129, 1000} {
		key := some(k)
		d := hash.Sum(key)
		checkCode(t, fmt.Sprintf("the digest of a key of %d bytes", k), Code(d[:], b), Code(key, b))
	}
	whole := some(64)
	d := hash.Sum(whole)
	if Code(whole, b) == Code(d[:], b) {
		t.Error("a key of 64 bytes is as its digest")
	}
	if Code(whole, b) == Code(append(bytes.Clone(whole), 0), b) {
		t.Error("a key of 65 bytes is as its first 64")
	}
}

// P6.1: each bit of the key and of the bytes counts; the key and the bytes aren't one row.
func TestEveryBit(t *testing.T) {
	for _, k := range []int{1, 63, 64, 65, 128, 130} {
		key, b := some(k), some(70)
		seen := map[hash.Digest]bool{Code(key, b): true}
		for _, l := range [][]byte{key, b} {
			for i := range len(l) * 8 {
				l[i/8] ^= 1 << (i % 8)
				seen[Code(key, b)] = true
				l[i/8] ^= 1 << (i % 8)
			}
		}
		if len(seen) != 1+8*(k+70) {
			t.Errorf("a key of %d bytes: %d codes of %d", k, len(seen), 1+8*(k+70))
		}
	}
	if Code([]byte("ab"), []byte("c")) == Code([]byte("a"), []byte("bc")) || Code([]byte("a"), []byte("b")) == Code([]byte("b"), []byte("a")) {
		t.Error("other keys, the same code")
	}
}

// P6.1: no key and no bytes, nil or empty.
func TestNothing(t *testing.T) {
	for _, key := range [][]byte{nil, {}, some(9)[:0], make([]byte, 64)} {
		for _, b := range [][]byte{nil, {}, some(9)[:0]} {
			checkCode(t, fmt.Sprintf("a key of %d bytes, none", len(key)), Code(key, b), code(nil, nil))
			checkSame(t, "no bytes", b, nil, true)
			checkSame(t, "no bytes", b, []byte{}, true)
			checkSame(t, "a byte 0, and none", b, []byte{0}, false)
		}
		checkCode(t, "no key", Code(key, []byte("abc")), code(nil, []byte("abc")))
		if got := Token(key, ""); got != ".b613679a0814d9ec772f95d778c35fc5" {
			t.Errorf("Token without a key and a name: %q", got)
		}
		checkName(t, key, ".b613679a0814d9ec772f95d778c35fc5", "")
		checkName(t, key, token(nil, "acme"), "acme")
		checkNone(t, key, token([]byte("k"), "acme"))
		checkNone(t, key, "")
		checkNone(t, key, ".")
	}
}

// P6.1: rows that are the same but for one byte, each one and each bit of it, or for their length.
func TestSame(t *testing.T) {
	for _, n := range lengths() {
		for _, a := range [][]byte{some(n), make([]byte, n), other(make([]byte, n))} {
			b := bytes.Clone(a)
			what := fmt.Sprintf("%d bytes (%.4x..)", n, a)
			checkSame(t, what, a, a, true)
			checkSame(t, what, a, b, true)
			for _, more := range []byte{0, 1, 128, 255} {
				checkSame(t, what+", and one more", a, append(bytes.Clone(a), more), false)
				checkSame(t, what+", and one ahead", a, append([]byte{more}, a...), false)
			}
			checkSame(t, what+", twice", a, append(bytes.Clone(a), a...), n == 0)
			if n == 0 {
				continue
			}
			checkSame(t, what+", without the last one", a, b[:n-1], false)
			checkSame(t, what+", without the first one", a, b[1:], false)
			for i := range n * 8 {
				b[i/8] ^= 1 << (i % 8)
				checkSame(t, fmt.Sprintf("%s, bit %d changed", what, i), a, b, false)
				b[i/8] ^= 1 << (i % 8)
			}
		}
	}
}

// P6.1: lengths that differ in high bits alone, and differences that could undo one another.
func TestSameUndone(t *testing.T) {
	for _, n := range []int{1, 2, 255, 256, 257, 65535, 65536, 65537, 1 << 20} {
		checkSame(t, fmt.Sprintf("none, and %d bytes 0", n), nil, make([]byte, n), false)
		checkSame(t, fmt.Sprintf("a byte, and %d more", n), []byte{7}, append([]byte{7}, make([]byte, n)...), false)
	}
	for x := range 256 {
		for y := range 256 {
			checkSame(t, fmt.Sprintf("bytes %d, %d", x, y), []byte{byte(x)}, []byte{byte(y)}, x == y)
			checkSame(t, fmt.Sprintf("bytes %d, %d, the other way round", x, y), []byte{byte(x), byte(y)}, []byte{byte(y), byte(x)}, x == y)
		}
	}
	checkSame(t, "twice the same change", []byte{1, 2, 3}, []byte{129, 130, 3}, false)
	checkSame(t, "changes that add up to nothing", []byte{1, 2, 3}, []byte{2, 1, 3}, false)
	checkSame(t, "a change as great as the length", []byte{1, 0}, []byte{1, 0, 1}, false)
}

// quickest is the least time of some that a Same takes.
func quickest(a, b []byte) time.Duration {
	least := time.Duration(math.MaxInt64)
	for range 9 {
		begin := time.Now()
		same := Same(a, b)
		least = min(least, time.Since(begin))
		runtime.KeepAlive(same)
	}
	return least
}

// P6.1: all bytes are looked at, wherever a row differs: to end at the first one would be a thousand times as quick.
func TestAllLookedAt(t *testing.T) {
	const n = 1 << 22
	a := make([]byte, n)
	whole := quickest(a, bytes.Clone(a))
	first, middle := bytes.Clone(a), bytes.Clone(a)
	first[0], middle[n/64] = 1, 1
	for _, x := range []struct {
		what string
		b    []byte
	}{{"the first byte differs", first}, {"one near the beginning differs", middle}, {"one byte fewer", a[1:]}, {"no bytes", nil}} {
		if took := quickest(a, x.b); took < whole/16 {
			t.Errorf("%s: %v, but %v of rows that are the same", x.what, took, whole)
		}
	}
}

// P6.1: tokens that are known by themselves, made with other tools.
func TestTokenKnown(t *testing.T) {
	key := []byte("secret")
	for _, x := range []struct{ name, want string }{
		{"", ".f9e66e179b6747ae54108f82f8ade8b3"},
		{"a", "a.4048c44911916043ff626895ff78c526"},
		{"acme", "acme.700f8a71077438948e68c52f90421d3f"},
		{"admin", "admin.1fd849baf9cc24c3c13f83005d8c2072"},
		{"a.b", "a.b.b1b87bf8e18669f184b4061e1dea3900"},
		{".a", ".a.ea957e570e9ad2342219bc43f7f3c0f8"},
		{"a.", "a..60bdf44f651313ce93c8b2bdb9c22adb"},
	} {
		if got := Token(key, x.name); got != x.want {
			t.Errorf("Token of %q: %q, want %q", x.name, got, x.want)
		}
		checkName(t, key, x.want, x.name)
	}
}

// P6.1, P6.2: tokens of all keys and names, each checked as its name.
func TestTokens(t *testing.T) {
	for _, k := range lengths() {
		key := some(k)
		for _, name := range append(names(), string(some(k)), string(some(300))) {
			got := Token(key, name)
			if want := token(key, name); got != want {
				t.Errorf("Token of %q with a key of %d bytes: %q, want %q", name, k, got, want)
			}
			if tail := got[len(name):]; len(tail) != 33 || tail[0] != '.' || strings.Trim(tail[1:], "0123456789abcdef") != "" {
				t.Errorf("Token of %q: %q", name, got)
			}
			checkName(t, key, got, name)
		}
	}
}

// P6.1: the names of all single bytes, so that each sign is told and read.
func TestTokensOfAllBytes(t *testing.T) {
	key := []byte("k")
	var all strings.Builder
	for x := range 256 {
		name := string([]byte{byte(x)})
		got := Token(key, name)
		if want := token(key, name); got != want {
			t.Errorf("Token of %q: %q, want %q", name, got, want)
		}
		checkName(t, key, got, name)
		all.WriteString(got[2:])
	}
	for _, sign := range "0123456789abcdef" {
		if !strings.ContainsRune(all.String(), sign) {
			t.Errorf("no token has the sign %c", sign)
		}
	}
}

// P6.1: a token checks with its own key alone.
func TestOtherKeys(t *testing.T) {
	for _, k := range []int{0, 1, 63, 64, 65, 128, 200} {
		key := some(k)
		for _, name := range names() {
			text := Token(key, name)
			checkNone(t, append([]byte{1}, key...), text)
			checkNone(t, append(bytes.Clone(key), 1), text)
			if k == 0 {
				continue
			}
			checkNone(t, nil, text)
			for _, i := range []int{0, k / 2, k - 1} {
				key[i] ^= 1
				checkNone(t, key, text)
				key[i] ^= 1
			}
			checkName(t, key, text, name)
		}
	}
}

// P6.1: texts that aren't a name, a dot and 32 signs.
func TestNoTokens(t *testing.T) {
	key := []byte("secret")
	for _, name := range names() {
		text := Token(key, name)
		end := text[len(name)+1:]
		d := code(key, []byte(name))
		checkNone(t, key, name)
		checkNone(t, key, name+".")
		checkNone(t, key, strings.ReplaceAll(name, ".", "")+end)
		checkNone(t, key, name+".."+end)
		checkNone(t, key, text+".")
		checkNone(t, key, "x"+text)
		checkNone(t, key, " "+text)
		checkNone(t, key, text+" ")
		checkNone(t, key, text+"\n")
		checkNone(t, key, text+"\x00")
		checkNone(t, key, "\x00"+text)
		checkNone(t, key, name+". "+end)
		checkNone(t, key, name+"."+end+end)
		checkNone(t, key, name+"."+strings.Repeat("0", 32))
		checkNone(t, key, name+"."+string(d[:16]))
		checkNone(t, key, name+"."+string(d[:]))
		checkNone(t, key, name+"."+hex.EncodeToString(d[:]))
		checkNone(t, key, name+"."+hex.EncodeToString(d[16:]))
		checkNone(t, key, name+"."+hex.EncodeToString(d[:15]))
		checkNone(t, key, name+"."+hex.EncodeToString(d[:17]))
		for i := range end {
			checkNone(t, key, name+"."+end[:i])
			checkNone(t, key, name+"."+end[i+1:])
			checkNone(t, key, name+"."+end[:i]+end[i+1:])
			checkNone(t, key, name+"."+end[:i]+"."+end[i:])
		}
		for _, sign := range "0123456789abcdef.gG \x00" {
			checkNone(t, key, text+string(sign))
			checkNone(t, key, name+"."+string(sign)+end)
		}
	}
	for _, text := range []string{"", "a", "acme", strings.Repeat("0", 32), strings.Repeat("f", 64), ".", "..", "a.", ".a", "a.b"} {
		checkNone(t, key, text)
		checkNone(t, nil, text)
	}
}

// P6.1: great letters are no signs.
func TestGreatLetters(t *testing.T) {
	for _, name := range names() {
		text := Token([]byte("key"), name)
		b := []byte(text)
		for i := len(name) + 1; i < len(b); i++ {
			if b[i] >= 'a' {
				b[i] -= 'a' - 'A'
				checkNone(t, []byte("key"), string(b))
				b[i] += 'a' - 'A'
			}
		}
		great := name + strings.ToUpper(text[len(name):])
		if great == text {
			t.Errorf("Token of %q has no letters: %q", name, text)
		}
		checkNone(t, []byte("key"), great)
	}
}

// P6.1: a name's signs are no other name's, and a name with a dot isn't cut at an earlier one.
func TestOtherNames(t *testing.T) {
	key := some(20)
	for _, one := range names() {
		for _, two := range names() {
			if one != two {
				checkNone(t, key, two+Token(key, one)[len(one):])
			}
		}
		// A token is a name, too; it isn't itself a token of what it begins with.
		twice := Token(key, Token(key, one))
		checkName(t, key, twice, Token(key, one))
		checkNone(t, key, one+twice[len(twice)-33:])
	}
}

// P6.2: each sign of a token, the name's and the dot too, turned to each other one.
func TestOneSignAnother(t *testing.T) {
	for _, k := range []int{0, 6, 65} {
		key := some(k)
		for _, name := range []string{"", "a", "acme", "a.b", ".", ".a", "a.", "a.b.c"} {
			text := Token(key, name)
			b := []byte(text)
			for i, was := range b {
				for x := range 256 {
					if b[i] = byte(x); b[i] != was {
						checkNone(t, key, string(b))
					}
				}
				b[i] = was
			}
			checkName(t, key, string(b), name)
		}
	}
}

// P6.2: two signs of a token changed for one another.
func TestSignsChangedOver(t *testing.T) {
	key := some(30)
	for _, name := range []string{"", "acme", "a.b"} {
		text := Token(key, name)
		for i := range text {
			for j := range i {
				b := []byte(text)
				b[i], b[j] = b[j], b[i]
				if string(b) != text {
					checkNone(t, key, string(b))
				}
			}
		}
	}
}

// P6.2: neither keys and rows nor the spare room behind them are changed.
func TestHandedInStays(t *testing.T) {
	for _, k := range lengths() {
		for _, n := range lengths() {
			ofKey, ofRow := some(k+200), some(n+200)
			key, b := ofKey[:k], ofRow[:n]
			keyWas, rowWas := bytes.Clone(ofKey), bytes.Clone(ofRow)
			Code(key, b)
			Code(b, key)
			Code(key, key)
			Same(key, b)
			Same(b, b)
			Check(key, Token(key, string(b)))
			Check(key, string(b))
			if !bytes.Equal(ofKey, keyWas) || !bytes.Equal(ofRow, rowWas) {
				t.Errorf("a key of %d bytes, a row of %d, or the room behind them, are changed", k, n)
			}
		}
	}
}

// P6.2: keys and rows may be changed behind a call; what comes next hangs on what they are then.
func TestHandedInIsNotKept(t *testing.T) {
	for _, k := range lengths() {
		key, b := some(k), some(k+1)
		keyWas, rowWas := bytes.Clone(key), bytes.Clone(b)
		d, text := Code(key, b), Token(key, "acme")
		name, ok := Check(key, text)
		copy(key, other(key))
		copy(b, other(b))
		what := fmt.Sprintf("a key of %d bytes, changed behind the call", k)
		checkCode(t, what, d, code(keyWas, rowWas))
		checkCode(t, what+", again", Code(key, b), code(key, b))
		checkCode(t, what+", as it was", Code(keyWas, rowWas), d)
		checkSame(t, what, b, rowWas, false)
		if text != token(keyWas, "acme") || name != "acme" || !ok || Token(key, "acme") != token(key, "acme") {
			t.Errorf("%s: %q, %q, %v, then %q", what, text, name, ok, Token(key, "acme"))
		}
		if k > 0 {
			checkNone(t, key, text)
		}
		checkName(t, keyWas, text, "acme")
	}
}

// P6.2: a key and bytes that are pieces of one row.
func TestOneRow(t *testing.T) {
	room := some(300)
	for _, k := range []int{0, 1, 63, 64, 65, 128, 150} {
		for _, from := range []int{0, k / 2, k} {
			key, b := room[:k], room[from:from+100]
			checkCode(t, fmt.Sprintf("a key of %d bytes, bytes from %d on", k, from), Code(key, b), code(bytes.Clone(key), bytes.Clone(b)))
		}
	}
}

// P6.2: a digest is the caller's own.
func TestDigestIsNew(t *testing.T) {
	key, b := some(40), some(50)
	d := Code(key, b)
	clear(d[:])
	checkCode(t, "Code behind one that was cleared", Code(key, b), code(key, b))
	checkName(t, key, Token(key, "a"), "a")
}

// inside tells whether a text lies in the memory of another one.
func inside(part, whole string) bool {
	from, at := uintptr(unsafe.Pointer(unsafe.StringData(whole))), uintptr(unsafe.Pointer(unsafe.StringData(part)))
	return at >= from && at < from+uintptr(len(whole))
}

// P6.2: a name and a token share no memory with what was handed in.
func TestAnswersAreNew(t *testing.T) {
	key := some(40)
	for _, name := range names() {
		if name == "" {
			continue
		}
		text := Token(key, name)
		got, _ := Check(key, text)
		if inside(got, text) || inside(text, name) || inside(got, name) {
			t.Errorf("%q: an answer shares memory with an argument", name)
		}
	}
}

// P6.1: long names, keys and texts, and dots alone.
func TestLong(t *testing.T) {
	key := some(1 << 20)
	for _, name := range []string{string(some(1 << 20)), strings.Repeat(".", 1<<20), strings.Repeat("0", 1<<20)} {
		text := Token(key, name)
		if text != token(key, name) {
			t.Error("Token of a long name")
		}
		if got, ok := Check(key, text); got != name || !ok {
			t.Error("Check of a long name's token")
		}
		if got, ok := Check(key, name); got != "" || ok {
			t.Error("Check of a long text that is no token")
		}
		if got, ok := Check(key, "a."+strings.Repeat("0", 1<<20)); got != "" || ok {
			t.Error("Check of a text with many signs behind its dot")
		}
	}
}

// P6.1, P6.2: keys, names and texts by chance.
func TestChance(t *testing.T) {
	r := rand.New(rand.NewSource(6))
	row := func(most int) []byte {
		b := make([]byte, r.Intn(most+1))
		r.Read(b)
		return b
	}
	for range 20000 {
		key, b := row(150), row(150)
		checkCode(t, fmt.Sprintf("key %x, bytes %x", key, b), Code(key, b), code(key, b))
		checkSame(t, fmt.Sprintf("%x, %x", key, b), key, b, slices.Equal(key, b))
		name := string(row(20))
		text := Token(key, name)
		if text != token(key, name) {
			t.Errorf("Token of %q with key %x: %q", name, key, text)
		}
		checkName(t, key, text, name)
		i := r.Intn(len(text))
		checkNone(t, key, text[:i]+string([]byte{text[i] ^ byte(1+r.Intn(255))})+text[i+1:])
		checkNone(t, key, text[:i]+text[i+1:])
		checkNone(t, key, text[:i]+"0"+text[i:])
	}
}
