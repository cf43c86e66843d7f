package nums

import (
	"math"
	"math/big"
	"testing"
)

const (
	least    = math.MinInt64
	greatest = math.MaxInt64
)

// grid is the numbers around 0, around both signs of all powers of 2, and around the roots of 64 bits.
func grid() []int64 {
	var l []int64
	near := func(a int64) {
		for d := int64(-2); d <= 2; d++ {
			l = append(l, a+d) // at the ends of 64 bits this goes round, to the other end
		}
	}
	near(0)
	for n := range 64 {
		near(1 << n)
		near(-(1 << n))
	}
	for _, a := range []int64{3037000499, 1000003, 123456789012345, 6148914691236517205} {
		near(a)
		near(-a)
	}
	return l
}

// nearest saturates by numbers of any width.
func nearest(x *big.Int) int64 {
	if x.IsInt64() {
		return x.Int64()
	}
	if x.Sign() < 0 {
		return least
	}
	return greatest
}

type pair struct{ a, b, want int64 }

func checkPairs(t *testing.T, what string, f func(a, b int64) int64, l []pair) {
	t.Helper()
	for _, x := range l {
		if got := f(x.a, x.b); got != x.want {
			t.Errorf("%s(%d, %d): %d, want %d", what, x.a, x.b, got, x.want)
		}
	}
}

func checkGrid(t *testing.T, what string, f func(a, b int64) int64, ref func(z, a, b *big.Int) *big.Int) {
	t.Helper()
	l := grid()
	z := new(big.Int)
	for _, a := range l {
		for _, b := range l {
			want := nearest(ref(z, big.NewInt(a), big.NewInt(b)))
			if got := f(a, b); got != want {
				t.Fatalf("%s(%d, %d): %d, want %d", what, a, b, got, want)
			}
		}
	}
}

// P1.1
func TestAdd(t *testing.T) {
	checkPairs(t, "Add", Add, []pair{
		{2, 3, 5}, {2, -3, -1}, {0, 0, 0},
		{greatest, 0, greatest}, {greatest, 1, greatest}, {1, greatest, greatest}, {greatest, greatest, greatest},
		{least, 0, least}, {least, -1, least}, {-1, least, least}, {least, least, least},
		{least, greatest, -1}, {greatest - 1, 1, greatest}, {least + 1, -1, least},
	})
	checkGrid(t, "Add", Add, (*big.Int).Add)
}

// P1.1
func TestSub(t *testing.T) {
	checkPairs(t, "Sub", Sub, []pair{
		{2, 3, -1}, {2, -3, 5}, {0, 0, 0},
		{greatest, -1, greatest}, {least, 1, least}, {0, least, greatest}, {-1, least, greatest},
		{least, least, 0}, {greatest, greatest, 0}, {greatest, least, greatest}, {least, greatest, least},
		{-2, greatest, least}, {-1, greatest, least}, {0, greatest, -greatest},
	})
	checkGrid(t, "Sub", Sub, (*big.Int).Sub)
}

// P1.1
func TestMul(t *testing.T) {
	checkPairs(t, "Mul", Mul, []pair{
		{6, 7, 42}, {-6, 7, -42}, {6, -7, -42}, {-6, -7, 42},
		{0, least, 0}, {greatest, 0, 0}, {least, 1, least}, {1, least, least},
		{least, -1, greatest}, {-1, least, greatest}, {greatest, -1, -greatest}, {-1, greatest, -greatest},
		{least, least, greatest}, {least, greatest, least}, {greatest, greatest, greatest},
		{1 << 32, 1 << 31, greatest}, {1 << 32, -1 << 31, least}, {1 << 31, 1 << 31, 1 << 62},
		{1 << 32, 1 << 32, greatest}, {-1 << 32, 1 << 32, least}, // the product, gone round, is 0
	})
	checkGrid(t, "Mul", Mul, (*big.Int).Mul)
}

// P1.1
func TestNeg(t *testing.T) {
	for _, x := range [][2]int64{{0, 0}, {5, -5}, {-5, 5}, {greatest, -greatest}, {-greatest, greatest}, {least, greatest}} {
		if got := Neg(x[0]); got != x[1] {
			t.Errorf("Neg(%d): %d, want %d", x[0], got, x[1])
		}
	}
	for _, a := range grid() {
		if got, want := Neg(a), nearest(new(big.Int).Neg(big.NewInt(a))); got != want {
			t.Fatalf("Neg(%d): %d, want %d", a, got, want)
		}
	}
}

// P1.1
func TestShift(t *testing.T) {
	for _, x := range []struct {
		a    int64
		by   int
		want int64
	}{
		{5, 0, 5}, {5, 3, 40}, {-5, 3, -40}, {40, -3, 5},
		{-5, -1, -3}, {5, -1, 2}, {-1, -1, -1}, {1, -1, 0}, // down, not toward 0
		{1, 62, 1 << 62}, {1, 63, greatest}, {-1, 63, least}, {-2, 63, least}, {-2, 62, least}, {-3, 62, least}, {3, 62, greatest},
		{1, 64, greatest}, {-1, 64, least}, {0, 64, 0}, {0, 63, 0},
		{1, math.MaxInt, greatest}, {-1, math.MaxInt, least}, {0, math.MaxInt, 0},
		{greatest, -62, 1}, {least, -62, -2}, {least, -63, -1}, {greatest, -63, 0},
		{greatest, -64, 0}, {least, -64, -1}, {-1, -64, -1}, {0, -64, 0},
		{greatest, math.MinInt, 0}, {least, math.MinInt, -1}, {greatest, math.MinInt + 1, 0}, {-1, math.MinInt + 1, -1},
		{greatest, 0, greatest}, {least, 0, least}, {greatest, 1, greatest}, {least, 1, least},
	} {
		if got := Shift(x.a, x.by); got != x.want {
			t.Errorf("Shift(%d, %d): %d, want %d", x.a, x.by, got, x.want)
		}
	}
}

// P1.1
func TestShiftGrid(t *testing.T) {
	z := new(big.Int)
	for _, a := range grid() {
		for by := -130; by <= 130; by++ {
			if by < 0 {
				z.Rsh(big.NewInt(a), uint(-by))
			} else {
				z.Lsh(big.NewInt(a), uint(by))
			}
			if got, want := Shift(a, by), nearest(z); got != want {
				t.Fatalf("Shift(%d, %d): %d, want %d", a, by, got, want)
			}
		}
	}
}

// wide asks a function that narrows, and widens what it answers.
func wide[T int8 | int16 | int32 | uint8 | uint16 | uint32](f func(int64) (T, bool)) func(int64) (int64, bool) {
	return func(a int64) (int64, bool) {
		n, ok := f(a)
		return int64(n), ok
	}
}

type narrowing struct {
	name     string
	f        func(int64) (int64, bool)
	from, to int64
}

func narrowings() []narrowing {
	return []narrowing{
		{"To8", wide(To8), math.MinInt8, math.MaxInt8},
		{"To16", wide(To16), math.MinInt16, math.MaxInt16},
		{"To32", wide(To32), math.MinInt32, math.MaxInt32},
		{"ToU8", wide(ToU8), 0, math.MaxUint8},
		{"ToU16", wide(ToU16), 0, math.MaxUint16},
		{"ToU32", wide(ToU32), 0, math.MaxUint32},
	}
}

// P1.2, P1.3
func TestNarrow(t *testing.T) {
	for _, x := range narrowings() {
		l := append(grid(), x.from-1, x.from, x.from+1, x.to-1, x.to, x.to+1)
		for _, a := range l {
			got, ok := x.f(a)
			if a >= x.from && a <= x.to {
				if got != a || !ok {
					t.Errorf("%s(%d): %d, %t, want it, true", x.name, a, got, ok)
				}
			} else if got != 0 || ok {
				t.Errorf("%s(%d): %d, %t, want 0, false", x.name, a, got, ok)
			}
		}
	}
}

// P1.2
func TestFold(t *testing.T) {
	for _, x := range []struct {
		a int64
		f uint64
	}{
		{0, 0}, {-1, 1}, {1, 2}, {-2, 3}, {2, 4}, {-3, 5},
		{greatest, math.MaxUint64 - 1}, {least, math.MaxUint64}, {-greatest, math.MaxUint64 - 2},
	} {
		if got := Fold(x.a); got != x.f {
			t.Errorf("Fold(%d): %d, want %d", x.a, got, x.f)
		}
		if got := Unfold(x.f); got != x.a {
			t.Errorf("Unfold(%d): %d, want %d", x.f, got, x.a)
		}
	}
}

// P1.2
func TestFoldGrid(t *testing.T) {
	for _, a := range grid() {
		want := new(big.Int).Lsh(big.NewInt(a), 1)
		if a < 0 {
			want.Neg(want).Sub(want, big.NewInt(1))
		}
		if got := Fold(a); got != want.Uint64() {
			t.Fatalf("Fold(%d): %d, want %d", a, got, want)
		}
	}
}

// P1.3
func TestUnfoldOfFold(t *testing.T) {
	for _, a := range grid() {
		if got := Unfold(Fold(a)); got != a {
			t.Errorf("Unfold(Fold(%d)): %d", a, got)
		}
		if x := uint64(a); Fold(Unfold(x)) != x {
			t.Errorf("Fold(Unfold(%d)): %d", x, Fold(Unfold(x)))
		}
	}
}

// P1.2
func TestWidth(t *testing.T) {
	for _, x := range []struct {
		x    uint64
		want int
	}{{0, 0}, {1, 1}, {2, 2}, {3, 2}, {4, 3}, {5, 3}, {255, 8}, {256, 9}, {greatest, 63}, {1 << 63, 64}, {math.MaxUint64, 64}} {
		if got := Width(x.x); got != x.want {
			t.Errorf("Width(%d): %d, want %d", x.x, got, x.want)
		}
	}
	for _, a := range grid() {
		x := uint64(a)
		if got, want := Width(x), new(big.Int).SetUint64(x).BitLen(); got != want {
			t.Errorf("Width(%d): %d, want %d", x, got, want)
		}
	}
}
