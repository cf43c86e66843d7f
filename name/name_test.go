package name

import (
	"bytes"
	"fmt"
	"math/rand"
	"regexp"
	"slices"
	"strings"
	"testing"
	"unsafe"

	"catacomb/api"
)

const (
	inName  = "abcdefghijklmnopqrstuvwxyz0123456789-"
	sixteen = "abcdefghijklmnop"
)

// The chapter's words, as the library's patterns.
var (
	ofName    = regexp.MustCompile(`\A[a-z][a-z0-9-]{0,15}\z`)
	ofFull    = regexp.MustCompile(`\A([a-z][a-z0-9-]{0,15})/([a-z][a-z0-9-]{0,15})\z`)
	notInName = regexp.MustCompile(`[^a-z0-9-]`)
	noLetters = regexp.MustCompile(`\A[^a-z]+`)
)

// fold goes by the chapter's words, one behind the other, over the whole text each time.
func fold(s string) string {
	b := []byte(s)
	for i, x := range b {
		if strings.IndexByte("ABCDEFGHIJKLMNOPQRSTUVWXYZ", x) >= 0 {
			b[i] = x + 32
		}
	}
	b = notInName.ReplaceAll(b, nil)
	b = noLetters.ReplaceAll(b, nil)
	return string(b[:min(16, len(b))])
}

// less is the order by the library's rows of bytes.
func less(a, b Key) int {
	if !bytes.Equal([]byte(a.Tenant), []byte(b.Tenant)) {
		return bytes.Compare([]byte(a.Tenant), []byte(b.Tenant))
	}
	return bytes.Compare([]byte(a.Series), []byte(b.Series))
}

// names are of all lengths, with each sign that may stand in one.
func names() []string {
	l := []string{"a", "z", "m", "acme", "cpu", "disk", "load-5", "a-", "a--", "z9", "a0", "x-1-y", "a---------------", "z999999999999999", sixteen, "qrstuvwxyz012345", "n6789----------z"}
	for n := 1; n <= 16; n++ {
		l = append(l, inName[:n], strings.Repeat("b", n), "k"+strings.Repeat("7", n-1))
	}
	return l
}

// wrong are texts that are no names.
func wrong() []string {
	l := []string{
		"", "-", "--", "0", "9", "0a", "5-load", "-a", "-load", "9999999999999999", "----------------",
		"A", "Z", "Acme", "aCme", "acmE", "ACME", sixteen[:15] + "P", "CPU_load", "cpu_load",
		"a.b", ".", "a.", ".a", "a b", " ", " a", "a ", "a\t", "a\n", "\na", "a\r\n", "a\x00", "\x00", "\x00a", "a\x7f",
		"a/b", "/", "a/", "/a", "//", "a`", "a{", "a@", "a[", "a:", "a,", "a+", "a_", "_", "_a", "a~", "a\\", "a\"", "a'", "a%20",
		"a\x80", "\x80", "a\xff", "\xff", "\xe1", "a\xe1", "\xc3", "\xa9a",
		"\u00e9", "caf\u00e9", "\u00e9a", "\u0430", "a\u0430", "\u212a", "a\u212a", "\u0131", "a\u0131", "a\u0660", "a\uff11", "\uff41", "a\u2010", "a\u2013", "a\u2212", "a\u00ad", "a\U0001d7ce", "a\U0001f600", "\u20ac", "a\ufffd", "\ufeffa",
		sixteen + "q", sixteen + "0", sixteen + "-", sixteen + " ", sixteen + "\x00", sixteen + "\u00e9", " " + sixteen, "-" + sixteen, sixteen[:15] + "\u00e9", sixteen[:15] + ".", sixteen[:15] + "\n",
	}
	for _, n := range []int{17, 18, 31, 32, 33, 255, 256, 257, 272, 65536, 65537, 65552} {
		l = append(l, strings.Repeat("a", n))
	}
	return l
}

// signs are bytes at the edges of those that may stand in a name, and signs of more than one byte.
func signs() []string {
	return []string{"a", "z", "0", "9", "-", "A", "Z", "`", "{", "/", ":", "@", "[", ",", ".", "_", " ", "\n", "\x00", "\x7f", "\x80", "\xff", "\xe1", "\u00e9", "\u00c9", "\u212a", "\u0130", "\u20ac", "\U0001f600"}
}

// short is a text's beginning, to be told.
func short(s string) string {
	if len(s) > 60 {
		return fmt.Sprintf("%.60q.. of %d bytes", s, len(s))
	}
	return fmt.Sprintf("%q", s)
}

func checkRight(t *testing.T, s string, want bool) {
	t.Helper()
	if got := Right(s); got != want {
		t.Fatalf("Right of %s: %v", short(s), got)
	}
}

func checkFull(t *testing.T, k Key, want string) {
	t.Helper()
	if got := Full(k); got != want {
		t.Fatalf("Full of %s, %s: %s, want %s", short(k.Tenant), short(k.Series), short(got), short(want))
	}
}

func checkParse(t *testing.T, s, tenant, series string) {
	t.Helper()
	if got, ok := Parse(s); got != (Key{Tenant: tenant, Series: series}) || !ok {
		t.Fatalf("Parse of %s: %+v, %v, want %q, %q", short(s), got, ok, tenant, series)
	}
}

// checkNone holds that a text isn't parsed, and that nothing stands beside false.
func checkNone(t *testing.T, s string) {
	t.Helper()
	if got, ok := Parse(s); got != (Key{}) || ok {
		t.Fatalf("Parse of %s: %+v, %v, want nothing", short(s), got, ok)
	}
}

// checkText holds that a text is parsed just if it is a full name, and to the key whose full name it is.
func checkText(t *testing.T, s string) {
	t.Helper()
	want := ofFull.FindStringSubmatch(s)
	if want == nil {
		checkNone(t, s)
		return
	}
	checkParse(t, s, want[1], want[2])
	k, _ := Parse(s)
	checkFull(t, k, s)
}

// checkFold holds, too, that what is folded is a name, or nothing, and is folded to itself.
func checkFold(t *testing.T, s, want string) {
	t.Helper()
	got := Fold(s)
	if got != want {
		t.Fatalf("Fold of %s: %s, want %s", short(s), short(got), short(want))
	}
	if got != "" && (!ofName.MatchString(got) || !Right(got)) {
		t.Fatalf("Fold of %s: %s, which is no name", short(s), short(got))
	}
	if again := Fold(got); again != got {
		t.Fatalf("Fold of %s: %s, and again: %s", short(s), short(got), short(again))
	}
}

// checkLess holds the order of two keys, one way and the other way round.
func checkLess(t *testing.T, a, b Key, want int) {
	t.Helper()
	if got := Less(a, b); got != want {
		t.Fatalf("Less of %+v and %+v: %d, want %d", a, b, got, want)
	}
	if got := Less(b, a); got != -want {
		t.Fatalf("Less of %+v and %+v: %d, want %d", b, a, got, -want)
	}
}

// P12.1
func TestExample(t *testing.T) {
	checkFold(t, "1 CPU_load", "cpuload")
}

// P12.1: texts that are names, and texts that are none.
func TestRightKnown(t *testing.T) {
	for _, s := range names() {
		checkRight(t, s, true)
	}
	for _, s := range wrong() {
		checkRight(t, s, false)
	}
}

// P12.1: no sign, 1, 16 and 17 of them, and all lengths around.
func TestRightLengths(t *testing.T) {
	for n := range 600 {
		for _, end := range inName {
			s := "a" + strings.Repeat(string(end), n)
			checkRight(t, s, n+1 <= 16)
		}
	}
	checkRight(t, "", false)
	checkRight(t, "a", true)
	checkRight(t, sixteen, true)
	checkRight(t, sixteen+"q", false)
	if api.MaxName != 16 {
		t.Fatalf("MaxName is %d", api.MaxName)
	}
}

// P12.1: each byte alone, first, behind a letter, and at each place of names of all lengths.
func TestRightOfAllBytes(t *testing.T) {
	for x := range 256 {
		b := string([]byte{byte(x)})
		first := x >= 'a' && x <= 'z'
		behind := first || x >= '0' && x <= '9' || x == '-'
		checkRight(t, b, first)
		checkRight(t, b+"a", first)
		checkRight(t, b+"0", first)
		checkRight(t, "a"+b, behind)
		checkRight(t, "z"+b, behind)
		for n := 1; n <= 17; n++ {
			for i := range n {
				s := []byte(strings.Repeat("m", n))
				s[i] = byte(x)
				checkRight(t, string(s), n <= 16 && behind && (first || i > 0))
			}
		}
	}
}

// P12.1: all texts of two bytes.
func TestTwoBytes(t *testing.T) {
	for x := range 256 {
		for y := range 256 {
			s := string([]byte{byte(x), byte(y)})
			checkRight(t, s, ofName.MatchString(s))
			checkFold(t, s, fold(s))
			checkNone(t, s)
		}
	}
}

// P12.1: each byte behind a name, ahead of it, and amid it.
func TestBesideAName(t *testing.T) {
	for _, s := range names() {
		for x := range 256 {
			b := string([]byte{byte(x)})
			for i := range len(s) + 1 {
				text := s[:i] + b + s[i:]
				checkRight(t, text, ofName.MatchString(text))
				checkFold(t, text, fold(text))
			}
		}
	}
}

// P12.1: signs of more than one byte, whole and cut, and others' small letters, digits and lines.
func TestSignsOfMoreBytes(t *testing.T) {
	for r := rune(0x80); r < 0x3000; r++ {
		one := string(r)
		for _, x := range []struct{ s, want string }{
			{one, ""}, {"a" + one, "a"}, {one + "a", "a"}, {"a" + one + "b", "ab"},
			{"a" + one[:1], "a"}, {one[:1] + "a", "a"}, {"a" + one[:1] + "b", "ab"}, {"a" + one[1:] + "b", "ab"},
		} {
			checkRight(t, x.s, false)
			checkFold(t, x.s, x.want)
		}
	}
}

// P12.1: full names as they are written by hand, also of what are no names.
func TestFullKnown(t *testing.T) {
	for _, x := range []struct{ tenant, series, want string }{
		{"acme", "cpu", "acme/cpu"},
		{"a", "b", "a/b"},
		{"cpu", "acme", "cpu/acme"},
		{sixteen, "qrstuvwxyz012345", "abcdefghijklmnop/qrstuvwxyz012345"},
		{"", "", "/"},
		{"a", "", "a/"},
		{"", "a", "/a"},
		{"a/b", "c", "a/b/c"},
		{"a", "b/c", "a/b/c"},
		{"/", "/", "///"},
		{"/", "", "//"},
		{"", "/", "//"},
		{"A", "B", "A/B"},
		{"1 CPU_load", "\xff\x00", "1 CPU_load/\xff\x00"},
		{"\u00e9", "\u20ac", "\u00e9/\u20ac"},
		{" a ", "\n", " a /\n"},
		{sixteen + sixteen, sixteen + "q", "abcdefghijklmnopabcdefghijklmnop/abcdefghijklmnopq"},
	} {
		checkFull(t, Key{Tenant: x.tenant, Series: x.series}, x.want)
	}
}

// P12.1, P12.2: keys of names, and of what are none; a full name is parsed to its key, and no other text is.
func TestAllKeys(t *testing.T) {
	right, no := names(), wrong()
	for _, tenant := range right {
		for _, series := range right {
			checkFull(t, Key{Tenant: tenant, Series: series}, tenant+"/"+series)
			checkParse(t, tenant+"/"+series, tenant, series)
			checkParse(t, Full(Key{Tenant: tenant, Series: series}), tenant, series)
		}
	}
	for _, x := range no {
		for _, s := range append(right, no...) {
			checkFull(t, Key{Tenant: x, Series: s}, x+"/"+s)
			checkFull(t, Key{Tenant: s, Series: x}, s+"/"+x)
			checkNone(t, x+"/"+s)
			checkNone(t, s+"/"+x)
		}
	}
}

// P12.1: full names of the shortest and of the longest names, and texts that are none.
func TestParseKnown(t *testing.T) {
	checkParse(t, "acme/cpu", "acme", "cpu")
	checkParse(t, "a/b", "a", "b")
	checkParse(t, "a/a", "a", "a")
	checkParse(t, sixteen+"/a", sixteen, "a")
	checkParse(t, "a/"+sixteen, "a", sixteen)
	checkParse(t, "abcdefghijklmnop/qrstuvwxyz012345", sixteen, "qrstuvwxyz012345")
	checkParse(t, "a-/b--0", "a-", "b--0")
	for _, s := range []string{
		"", "a", "acme", sixteen, sixteen + sixteen, "/", "//", "///",
		"/acme", "acme/", "/a", "a/", "/" + sixteen, sixteen + "/", "acmecpu/", "/acmecpu",
		"a//b", "a/b/", "/a/b", "a/b/c", "a/b/c/d", "//a", "a//", "/a/", "acme/cpu/", "acme/cpu/load", "/acme/cpu", "acme//cpu", "acme/cpu//",
		sixteen + "q/cpu", "acme/" + sixteen + "q", sixteen + "q/" + sixteen + "q", sixteen + "q/" + sixteen[1:],
		"Acme/cpu", "acme/Cpu", "ACME/CPU", "1acme/cpu", "acme/1cpu", "-acme/cpu", "acme/-cpu", "acme/5-load", "-/-", "0/0",
		"acme /cpu", "acme/ cpu", " acme/cpu", "acme/cpu ", "acme/cpu\n", "\nacme/cpu", "acme\x00/cpu", "acme/cpu\x00", "acme/\x00", "\x00/cpu",
		"acme.cpu", "acme\\cpu", "acme:cpu", "acme-cpu", "acme cpu", "acme,cpu", "acme|cpu", "acme%2fcpu", "acme%2Fcpu", "acme/cpu_load", "acme/a.b", "a.b/cpu",
		"acme\u2215cpu", "acme\uff0fcpu", "acme\u2044cpu", "acme\xafcpu", "acme\xc0\xafcpu",
		"acm\u00e9/cpu", "acme/cp\u00fb", "acme/cpu\xff", "acme\xff/cpu", "acme/cpu?", "acme/cpu#", "http://acme/cpu", "./a", "a/.", "a/..", "../a",
	} {
		checkNone(t, s)
	}
}

// P12.1: a / at each place of names of all lengths; both parts have to be names.
func TestParseCut(t *testing.T) {
	for n := range 40 {
		for _, text := range []string{strings.Repeat("a", n), strings.Repeat("abcd-0", 8)[:n], strings.Repeat("9z", 20)[:n]} {
			checkNone(t, text)
			for i := range n + 1 {
				one := text[:i] + "/" + text[i:]
				checkText(t, one)
				for j := range n + 2 {
					checkNone(t, one[:j]+"/"+one[j:])
				}
			}
		}
	}
}

// P12.1: each sign of a full name turned to each byte, each byte put in between, and each sign left out.
func TestParseOneSignAnother(t *testing.T) {
	for _, s := range []string{"acme/cpu", "a/b", "a-1/z9", sixteen + "/" + sixteen, sixteen + "/b", "a/" + sixteen} {
		b := []byte(s)
		for i, was := range b {
			for x := range 256 {
				b[i] = byte(x)
				checkText(t, string(b))
				checkText(t, s[:i]+string([]byte{byte(x)})+s[i:])
				checkText(t, s+string([]byte{byte(x)}))
			}
			b[i] = was
			checkText(t, s[:i]+s[i+1:])
		}
	}
}

// P12.1: texts as they are folded by hand.
func TestFoldKnown(t *testing.T) {
	for _, x := range []struct{ s, want string }{
		{"", ""}, {"a", "a"}, {"A", "a"}, {"Z", "z"}, {"z", "z"}, {"acme", "acme"}, {"ACME", "acme"}, {"AcMe", "acme"}, {"Load-5", "load-5"},
		{"1 CPU_load", "cpuload"}, {"CPU load", "cpuload"}, {"cpu.load.5", "cpuload5"}, {"acme/cpu", "acmecpu"},
		{"1", ""}, {"0123456789", ""}, {"-", ""}, {"---", ""}, {"-1-2-", ""}, {" ", ""}, {"_./", ""}, {"12345678901234567890", ""}, {"\xff\x80", ""}, {"\u00e9\u20ac", ""}, {"1\u00c9-2", ""},
		{"5-load", "load"}, {"-a", "a"}, {"--9a-9", "a-9"}, {"-A", "a"}, {"9Z9", "z9"}, {"a-", "a-"}, {"a--", "a--"}, {"A1-B2", "a1-b2"}, {"0a", "a"}, {"0-A-0", "a-0"},
		{"@A[", "a"}, {"`a{", "a"}, {"a/0:", "a0"}, {"a,-.", "a-"}, {"_a_", "a"}, {" a ", "a"}, {"\na\n", "a"}, {"a\x00b", "ab"}, {"a b\tc\r\nd", "abcd"},
		{"caf\u00e9", "caf"}, {"\u00c9tage", "tage"}, {"na\u00efve", "nave"}, {"\u212aelvin", "elvin"}, {"\u0130stanbul", "stanbul"}, {"a\uff11", "a"}, {"a\u20acb", "ab"}, {"a\U0001f600b", "ab"},
		{"\xe1a", "a"}, {"a\xe1", "a"}, {"a\xe1b", "ab"}, {"\xff1a", "a"}, {"a\xf0\x9f\x98b", "ab"}, {"\xc3A", "a"}, {"\xc3\xa9A\xa9", "a"}, {"\xe2\x84B", "b"}, {"a\x80\xbf1", "a1"},
		{sixteen, sixteen}, {sixteen + "q", sixteen}, {sixteen + sixteen, sixteen}, {sixteen + "0", sixteen}, {sixteen + "-", sixteen}, {sixteen + "_", sixteen}, {sixteen[:15] + "_", sixteen[:15]},
		{"ABCDEFGHIJKLMNOPQRSTUVWXYZ", sixteen}, {"QRSTUVWXYZ0123456789", "qrstuvwxyz012345"},
		{"_" + sixteen, sixteen}, {"1" + sixteen + "q", sixteen}, {"1234567890123456" + sixteen, sixteen}, {"-----------------a", "a"}, {"1234567890123456789 0CPU", "cpu"},
		{"abcdefgh........ijklmnopqrst", sixteen}, {"abcdefghijklmno_pq", sixteen}, {"abcdefghijklmno_", "abcdefghijklmno"}, {"a.b.c.d.e.f.g.h.i.j.k.l.m.n.o.p.q.r", sixteen},
		{"a b c d e f g h i j k l m n o 1 2", "abcdefghijklmno1"}, {"................a", "a"}, {"\u00e9\u00e9\u00e9\u00e9\u00e9\u00e9\u00e9\u00e9\u00e9abcdefghijklmnop\u00e9q", sixteen},
		{"1a2b3c4d5e6f7g8h9i", "a2b3c4d5e6f7g8h9"}, {"-a---------------b", "a---------------"},
	} {
		checkFold(t, x.s, x.want)
		checkFold(t, x.s, fold(x.s))
	}
}

// P12.1, P12.2: a name is folded to itself, written in capital letters too; what is no name isn't.
func TestFoldNames(t *testing.T) {
	for _, s := range names() {
		checkFold(t, s, s)
		checkFold(t, strings.ToUpper(s), s)
		checkFold(t, "7-"+s, s)
		checkFold(t, strings.Join(strings.Split(s, ""), "_"), s)
		checkFold(t, strings.Join(strings.Split(s, ""), "\u00e9"), s)
		checkFold(t, strings.Join(strings.Split(s, ""), "\xe1"), s)
	}
	for _, s := range wrong() {
		checkFold(t, s, fold(s))
		if s != "" && Fold(s) == s {
			t.Fatalf("Fold of %s, which is no name, is itself", short(s))
		}
	}
}

// P12.1: each byte alone, ahead of letters, behind them, and at each place of texts around the bound.
func TestFoldOfAllBytes(t *testing.T) {
	for x := range 256 {
		b := string([]byte{byte(x)})
		for _, s := range []string{b, b + b, b + "a", "a" + b, "A" + b, "1" + b, "-" + b, "1" + b + "1", "a" + b + "1", strings.Repeat(b, 17), strings.Repeat(b, 40) + "a"} {
			checkFold(t, s, fold(s))
		}
		for n := 14; n <= 34; n++ {
			for i := range n {
				s := []byte(strings.Repeat("mN0-", 9)[:n])
				s[i] = byte(x)
				checkFold(t, string(s), fold(string(s)))
			}
		}
	}
}

// P12.1: all texts of up to four of some signs.
func TestFoldOfAllShort(t *testing.T) {
	l := []string{""}
	for from := 0; len(l[from]) < 4; from++ {
		for _, x := range []string{"a", "Z", "0", "-", "_", "/", "\xc3", "\xa9"} {
			l = append(l, l[from]+x)
		}
	}
	for _, s := range l {
		checkFold(t, s, fold(s))
		checkFold(t, sixteen[:14]+s, fold(sixteen[:14]+s))
		checkRight(t, s, ofName.MatchString(s))
		checkText(t, "a/"+s)
		checkText(t, s+"/a")
		checkText(t, s)
	}
}

// P12.1: so many that are left out, or stand ahead of the first letter, ahead of the 16th sign.
func TestFoldLeftOut(t *testing.T) {
	for _, out := range []string{"_", " ", "/", "\x00", "\xff", "\u00e9", "\U0001f600"} {
		for n := range 300 {
			gap := strings.Repeat(out, n)
			checkFold(t, gap, "")
			checkFold(t, gap+sixteen+"q", sixteen)
			checkFold(t, sixteen[:5]+gap+sixteen[5:]+"q", sixteen)
			checkFold(t, sixteen[:15]+gap+"pq", sixteen)
			checkFold(t, sixteen+gap+"q", sixteen)
			checkFold(t, "0"+gap+"-"+sixteen+"q", sixteen)
		}
	}
	for n := range 300 {
		for _, ahead := range []string{"0", "9", "-", "1-"} {
			checkFold(t, strings.Repeat(ahead, n), "")
			checkFold(t, strings.Repeat(ahead, n)+"B"+sixteen, "b"+sixteen[:15])
		}
	}
}

// keys rise: each one is below those behind it.
func keys() []Key {
	l := []string{
		"", "\x00", "\x00\x00", "\x00a", "\n", " ", "-", "-a", "/", "/a", "0", "00", "09", "1", "10", "2", "A", "AA", "Aa", "Z", "_",
		"a", "a\x00", "a-", "a--", "a-a", "a/", "a/b", "a0", "a1", "a10", "a2", "aA", "aZ", "aa", "aaa", "ab", "abc", sixteen, sixteen + "q", "ac", "acme", "acme-", "acme-1", "acme/", "acme0", "acmea", "acmez",
		"b", "ba", "cpu", "disk", "z", "z-", "zz", "{", "\x7f", "\x80", "\xc2", "\u00e9", "\xc3\xaa", "\u20ac", "\uffff", "\U0001f600", "\xff", "\xff\xff",
	}
	var all []Key
	for _, tenant := range l {
		for _, series := range l {
			all = append(all, Key{Tenant: tenant, Series: series})
		}
	}
	return all
}

// P12.1: keys that differ in the tenant, in the series, in both, and not at all.
func TestLessKnown(t *testing.T) {
	for _, x := range []struct {
		a, b Key
		want int
	}{
		{Key{}, Key{}, 0},
		{Key{"acme", "cpu"}, Key{"acme", "cpu"}, 0},
		{Key{"acme", "cpu"}, Key{"acme", "disk"}, -1},
		{Key{"acme", "disk"}, Key{"acme", "cpu"}, 1},
		{Key{"acme", "cpu"}, Key{"best", "cpu"}, -1},
		{Key{"best", "cpu"}, Key{"acme", "cpu"}, 1},
		{Key{"acme", "disk"}, Key{"best", "cpu"}, -1},
		{Key{"acme", "cpu"}, Key{"best", "disk"}, -1},
		{Key{"a", "z"}, Key{"z", "a"}, -1},
		{Key{"a", "b"}, Key{"a", "bb"}, -1},
		{Key{"a", "z"}, Key{"aa", "a"}, -1},
		{Key{"a", "zz"}, Key{"ab", ""}, -1},
		// By full names, or by both names as one text, these stand the other way round, or are the same.
		{Key{"a", "z"}, Key{"a-", "a"}, -1},
		{Key{"a-", "a"}, Key{"a", "z"}, 1},
		{Key{"a", "bc"}, Key{"ab", "c"}, -1},
		{Key{"a/b", "c"}, Key{"a", "b/c"}, 1},
		{Key{"a\x00", "a"}, Key{"a", "b"}, 1},
		{Key{"", "a"}, Key{"a", ""}, -1},
		// Byte by byte: neither by numbers, nor by letters great or small, nor by lengths first.
		{Key{"a", "a10"}, Key{"a", "a9"}, -1},
		{Key{"a10", "a"}, Key{"a9", "a"}, -1},
		{Key{"a", "Z"}, Key{"a", "a"}, -1},
		{Key{"A", "a"}, Key{"a", "A"}, -1},
		{Key{"b", ""}, Key{"aaaa", ""}, 1},
		{Key{"", "b"}, Key{"", "aaaa"}, 1},
		{Key{"a-b", ""}, Key{"a0", ""}, -1},
		{Key{"a0", ""}, Key{"aa", ""}, -1},
		{Key{"\x7f", ""}, Key{"\x80", ""}, -1},
		{Key{"z", ""}, Key{"\xff", ""}, -1},
		{Key{"\uffff", ""}, Key{"\U00010000", ""}, -1},
	} {
		checkLess(t, x.a, x.b, x.want)
	}
}

// P12.1: of keys that rise, each two one way and the other way round.
func TestLessOfTwo(t *testing.T) {
	all := keys()
	for i, a := range all {
		for j, b := range all {
			want := min(1, max(-1, i-j))
			if got := Less(a, b); got != want || less(a, b) != want {
				t.Fatalf("Less of %+v and %+v: %d, want %d", a, b, got, want)
			}
		}
	}
}

// P12.1: each single byte against each other one, as a tenant, as a series, and as the end of one.
func TestLessOfAllBytes(t *testing.T) {
	for x := range 256 {
		for y := range 256 {
			a, b := string([]byte{byte(x)}), string([]byte{byte(y)})
			want := min(1, max(-1, x-y))
			checkLess(t, Key{Tenant: a}, Key{Tenant: b}, want)
			checkLess(t, Key{Series: a}, Key{Series: b}, want)
			checkLess(t, Key{Tenant: "acme", Series: "cpu" + a}, Key{Tenant: "acme", Series: "cpu" + b}, want)
			checkLess(t, Key{Tenant: sixteen + a, Series: b}, Key{Tenant: sixteen + b, Series: a}, want)
		}
	}
}

// P12.1: one order: of any three, what is below one is below all that this one is below; only a key and itself are the same.
func TestLessOfThree(t *testing.T) {
	l := []string{"", "\x00", "-", "/", "A", "a", "a-", "a/", "a0", "aa", "ab", "b", "\xff"}
	var all []Key
	for _, tenant := range l {
		for _, series := range l {
			all = append(all, Key{Tenant: tenant, Series: series})
		}
	}
	order := make([][]int, len(all))
	for i, a := range all {
		for j, b := range all {
			got := Less(a, b)
			if got != -Less(b, a) || got < -1 || got > 1 || (got == 0) != (i == j) {
				t.Fatalf("Less of %+v and %+v: %d, and %d", a, b, got, Less(b, a))
			}
			order[i] = append(order[i], got)
		}
	}
	for i := range all {
		for j := range all {
			for k := range all {
				if order[i][j] <= 0 && order[j][k] <= 0 && order[i][k] > 0 {
					t.Fatalf("%+v, %+v, %+v: no order", all[i], all[j], all[k])
				}
			}
		}
	}
}

// P12.1: keys are sorted to the same row, however they lie.
func TestLessSorts(t *testing.T) {
	want := keys()
	r := rand.New(rand.NewSource(12))
	for range 10 {
		got := slices.Clone(want)
		r.Shuffle(len(got), func(i, j int) { got[i], got[j] = got[j], got[i] })
		slices.SortFunc(got, Less)
		if !slices.Equal(got, want) {
			t.Fatal("keys, sorted, don't rise")
		}
	}
}

// P12.1: the same texts that lie in other memory are the same.
func TestLessOfCopies(t *testing.T) {
	for _, k := range keys() {
		checkLess(t, k, Key{Tenant: strings.Clone(k.Tenant), Series: strings.Clone(k.Series)}, 0)
	}
}

// P12.1, P12.2: texts by chance, of bytes that tell much.
func TestChance(t *testing.T) {
	r := rand.New(rand.NewSource(13))
	all := append(strings.Split(inName, ""), signs()...)
	text := func(most int) string {
		var s strings.Builder
		for range r.Intn(most + 1) {
			s.WriteString(all[r.Intn(len(all))])
		}
		return s.String()
	}
	name := func() string {
		s := string(inName[r.Intn(26)])
		for range r.Intn(19) {
			s += string(inName[r.Intn(len(inName))])
		}
		return s
	}
	for range 50000 {
		a, b := Key{Tenant: name(), Series: name()}, Key{Tenant: text(3), Series: text(40)}
		for _, s := range []string{a.Tenant, a.Series, b.Tenant, b.Series} {
			checkRight(t, s, ofName.MatchString(s))
			checkFold(t, s, fold(s))
		}
		for _, k := range []Key{a, b, {a.Tenant, b.Series}, {b.Tenant, a.Series}} {
			checkFull(t, k, k.Tenant+"/"+k.Series)
			checkText(t, Full(k))
			if got, ok := Parse(Full(k)); ok != (Right(k.Tenant) && Right(k.Series)) || ok && got != k {
				t.Fatalf("%+v has a full name that is parsed to %+v, %v", k, got, ok)
			}
			checkLess(t, k, a, less(k, a))
			checkLess(t, k, b, less(k, b))
		}
	}
}

// P12.1: bytes by chance.
func TestChanceOfBytes(t *testing.T) {
	r := rand.New(rand.NewSource(14))
	for range 50000 {
		b := make([]byte, r.Intn(200))
		r.Read(b)
		s := string(b)
		checkRight(t, s, ofName.MatchString(s))
		checkFold(t, s, fold(s))
		checkText(t, s)
		checkText(t, "a/"+s)
		checkText(t, s+"/a")
	}
}

// P12.1: long texts.
func TestLong(t *testing.T) {
	for _, part := range signs() {
		// So few of a sign are folded like many of it.
		s, few := strings.Repeat(part, 1<<20), strings.Repeat(part, 20)
		checkRight(t, s, false)
		checkRight(t, "a"+s, false)
		checkNone(t, s)
		checkNone(t, "a/"+s)
		checkNone(t, s+"/a")
		checkNone(t, "a/b"+s)
		checkFull(t, Key{Tenant: s, Series: s}, s+"/"+s)
		checkFold(t, s, fold(few))
		checkFold(t, s+sixteen+"q", fold(few+sixteen+"q"))
		checkFold(t, sixteen[:3]+s+sixteen, fold(sixteen[:3]+few+sixteen))
		checkLess(t, Key{Tenant: s, Series: "a"}, Key{Tenant: s, Series: "b"}, -1)
		checkLess(t, Key{Tenant: s + "a"}, Key{Tenant: s}, 1)
		checkLess(t, Key{Series: s}, Key{Series: strings.Clone(s)}, 0)
	}
}

// inside tells whether a text lies in the memory of another one.
func inside(part, whole string) bool {
	if part == "" {
		return false
	}
	from, at := uintptr(unsafe.Pointer(unsafe.StringData(whole))), uintptr(unsafe.Pointer(unsafe.StringData(part)))
	return at >= from && at < from+uintptr(len(whole))
}

// P12.2: what is answered shares no memory with what was handed in, nor with what else is answered.
func TestAnswersAreNew(t *testing.T) {
	for _, tenant := range names() {
		for _, series := range names() {
			k := Key{Tenant: strings.Clone(tenant), Series: strings.Clone(series)}
			text := Full(k)
			if inside(k.Tenant, text) || inside(k.Series, text) || inside(text, k.Tenant) || inside(text, k.Series) {
				t.Fatalf("Full of %+v shares memory with it", k)
			}
			got, _ := Parse(text)
			again, _ := Parse(text)
			if inside(got.Tenant, text) || inside(got.Series, text) {
				t.Fatalf("Parse of %q shares memory with it", text)
			}
			if inside(got.Tenant, got.Series) || inside(got.Series, got.Tenant) || inside(got.Tenant, again.Tenant) || inside(got.Series, again.Series) {
				t.Fatalf("Parse of %q: two texts share memory", text)
			}
		}
		own := strings.Clone(tenant)
		// One of a single byte stands in the language's own table, and isn't the text's.
		if one := Fold(own); inside(one, own) || len(one) > 1 && inside(one, Fold(own)) {
			t.Fatalf("Fold of %q shares memory with it, or with another answer", own)
		}
	}
}

// P12.1, P12.2: a text that lies in the caller's own bytes may be changed behind the call; it isn't changed by it.
func TestHandedInIsNotKept(t *testing.T) {
	for _, s := range append(append(names(), wrong()...), "acme/cpu", "1 CPU_load", sixteen+"/"+sixteen) {
		if s == "" {
			continue
		}
		own := []byte(s)
		text := unsafe.String(&own[0], len(own))
		k := Key{Tenant: text, Series: text}
		parsed, ok := Parse(text)
		right, full, folded, order := Right(text), Full(k), Fold(text), Less(k, Key{Tenant: s, Series: s})
		if string(own) != s {
			t.Fatalf("%s is changed to %s", short(s), short(string(own)))
		}
		for i := range own {
			own[i] = 'x'
		}
		want, was := Parse(s)
		if parsed != want || ok != was || right != Right(s) || full != s+"/"+s || folded != fold(s) || order != 0 {
			t.Fatalf("%s: an answer is changed with the text", short(s))
		}
	}
}

// P12.1: what is asked again is answered again, whatever was asked between.
func TestAgain(t *testing.T) {
	for range 2 {
		for _, s := range append(names(), wrong()...) {
			checkRight(t, s, ofName.MatchString(s))
			checkFold(t, s, fold(s))
			checkText(t, s+"/"+s)
		}
	}
}
