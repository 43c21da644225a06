// Package wide is layer 1: products of two ints, their quotients, and sums, all exact: see shared/doc/01-wide.md.
package wide

import (
	"cmp"
	"math"
	"math/bits"

	"apportion/api"
)

// Mul returns the absolute value of a * b as its quotient by 2^64 and the remainder, and its sign.
func Mul(a, b int) (uint64, uint64, int) {
	high, low := bits.Mul64(size(a), size(b))
	return high, low, sign(a) * sign(b)
}

// Sign returns the sign of a * b - c * d.
func Sign(a, b, c, d int) int {
	high1, low1, sign1 := Mul(a, b)
	high2, low2, sign2 := Mul(c, d)
	if sign1 != sign2 {
		return cmp.Compare(sign1, sign2)
	}
	// Of two negative products the one of greater size is the lesser.
	return sign1 * cmp.Or(cmp.Compare(high1, high2), cmp.Compare(low1, low2))
}

// Even returns a * b / c, rounded half to even.
func Even(a, b, c int) (int, api.Errno) {
	divisor := size(c)
	return divide(a, b, c, func(quotient, rest uint64) bool {
		// rest is held against what it lacks, since its double could be too great.
		half := cmp.Compare(rest, divisor-rest)
		return half > 0 || half == 0 && quotient%2 == 1
	})
}

// Floor returns the greatest integer that is at most a * b / c.
func Floor(a, b, c int) (int, api.Errno) {
	negative := quotientSign(a, b, c) < 0
	return divide(a, b, c, func(_, rest uint64) bool {
		return negative && rest != 0
	})
}

// Add returns a + b.
func Add(a, b int) (int, api.Errno) {
	return Sum([]int{a, b})
}

// Sum returns the sum of l.
func Sum(l []int) (int, api.Errno) {
	// A partial sum may be no int, so the sum is carried in 128 bits, in two's complement.
	var high, low uint64
	for _, n := range l {
		var carry uint64
		low, carry = bits.Add64(low, uint64(n), 0)
		high, _ = bits.Add64(high, signBits(n), carry)
	}
	total := int(low)
	if high != signBits(total) {
		return 0, api.ErrRange
	}
	return total, api.OK
}

// divide returns a * b / c. Its absolute value is rounded down, and raised by one if addOne reports so for that quotient and for the rest.
func divide(a, b, c int, addOne func(quotient, rest uint64) bool) (int, api.Errno) {
	if c == 0 {
		return 0, api.ErrArg
	}
	high, low, _ := Mul(a, b)
	divisor := size(c)
	// bits.Div64 panics if the quotient has more than 64 bits.
	if high >= divisor {
		return 0, api.ErrRange
	}
	quotient, rest := bits.Div64(high, low, divisor)
	// The greatest quotient is no int even as it is; raised it would wrap round to 0.
	if quotient < math.MaxUint64 && addOne(quotient, rest) {
		quotient++
	}
	return signed(quotient, quotientSign(a, b, c))
}

// signed returns the int of that absolute value and that sign.
func signed(absolute uint64, direction int) (int, api.Errno) {
	switch {
	case direction < 0 && absolute <= -math.MinInt:
		return int(-absolute), api.OK
	case direction >= 0 && absolute <= math.MaxInt:
		return int(absolute), api.OK
	}
	return 0, api.ErrRange
}

// quotientSign returns the sign of a * b / c.
func quotientSign(a, b, c int) int {
	return sign(a) * sign(b) * sign(c)
}

// sign returns -1, 0 or 1.
func sign(n int) int {
	return cmp.Compare(n, 0)
}

// size returns the absolute value of n, which for the least int is no int.
func size(n int) uint64 {
	if n < 0 {
		return -uint64(n)
	}
	return uint64(n)
}

// signBits returns the upper 64 of the 128 bits of n in two's complement.
func signBits(n int) uint64 {
	if n < 0 {
		return math.MaxUint64
	}
	return 0
}
