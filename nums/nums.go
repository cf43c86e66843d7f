// Package nums: whole numbers that don't go round, and change their widths (chapter 1).
package nums

import "math"

// steps are by how many bits Width halves what may still be there.
var steps = [6]int{32, 16, 8, 4, 2, 1}

// bound is the least number, or the greatest one.
func bound(least bool) int64 {
	if least {
		return math.MinInt64
	}
	return math.MaxInt64
}

// Add: the sum.
func Add(a, b int64) int64 {
	s := a + b
	// As long as it doesn't go round, the sum is above a just if b is above 0.
	if (s > a) != (b > 0) {
		return bound(b < 0)
	}
	return s
}

// Neg: the other sign.
func Neg(a int64) int64 {
	return Sub(0, a)
}

// Sub: the difference.
func Sub(a, b int64) int64 {
	d := a - b
	if (d < a) != (b > 0) {
		return bound(b > 0)
	}
	return d
}

// Mul: the product.
func Mul(a, b int64) int64 {
	if a == 0 || b == 0 {
		return 0
	}
	// -1 stands apart: the least number divided by it goes round in its turn.
	if a == -1 {
		return Neg(b)
	}
	p := a * b
	if p/a != b {
		return bound((a < 0) != (b < 0))
	}
	return p
}

// Shift: times 2 to a power.
func Shift(a int64, by int) int64 {
	// Beyond 63 bits nothing but the sign tells what comes of it.
	if by < 0 {
		return a >> -max(by, -63)
	}
	by = min(by, 63)
	s := a << by
	if s>>by != a {
		return bound(a < 0)
	}
	return s
}

// narrow keeps a number, if the narrower type has it.
func narrow[T int8 | int16 | int32 | uint8 | uint16 | uint32](a int64) (T, bool) {
	n := T(a)
	if int64(n) != a {
		return 0, false
	}
	return n, true
}

// To8: as an int8.
func To8(a int64) (int8, bool) { return narrow[int8](a) }

// To16: as an int16.
func To16(a int64) (int16, bool) { return narrow[int16](a) }

// To32: as an int32.
func To32(a int64) (int32, bool) { return narrow[int32](a) }

// ToU8: as a uint8.
func ToU8(a int64) (uint8, bool) { return narrow[uint8](a) }

// ToU16: as a uint16.
func ToU16(a int64) (uint16, bool) { return narrow[uint16](a) }

// ToU32: as a uint32.
func ToU32(a int64) (uint32, bool) { return narrow[uint32](a) }

// Fold: small ones of both signs are small.
func Fold(a int64) uint64 {
	if a < 0 {
		// The complement is -a - 1, and hasn't that number's overflow.
		return uint64(^a)<<1 | 1
	}
	return uint64(a) << 1
}

// Unfold: what folds to it.
func Unfold(x uint64) int64 {
	half := int64(x >> 1)
	if x&1 == 1 {
		return ^half
	}
	return half
}

// Width: how many bits a number has.
func Width(x uint64) int {
	n := 0
	for _, step := range steps {
		if x>>step != 0 {
			x >>= step
			n += step
		}
	}
	// Of each number but 0 just the highest bit is left.
	return n + int(x)
}
