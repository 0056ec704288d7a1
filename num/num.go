// Package num: overflow-safe integer arithmetic: see DOC.md, chapter 1.
package num

import (
	"cmp"
	"math"
	"math/bits"
)

// mostDown is the absolute value of the least int64, which no int64 holds.
const mostDown uint64 = 1 << 63

// Add returns a + b, and whether an int64 holds it.
func Add(a, b int64) (int64, bool) {
	sum := a + b
	// Only two numbers of one sign can leave the range, and then the wrapped sum has the other sign.
	if (a < 0) == (b < 0) && (sum < 0) != (a < 0) {
		return 0, false
	}
	return sum, true
}

// Sub returns a - b, and whether an int64 holds it.
func Sub(a, b int64) (int64, bool) {
	diff := a - b
	// Not Add(a, -b): the least int64 has no negative.
	if (a < 0) != (b < 0) && (diff < 0) != (a < 0) {
		return 0, false
	}
	return diff, true
}

// Mul returns a * b, and whether an int64 holds it.
func Mul(a, b int64) (int64, bool) {
	hi, lo := product(a, b)
	wrapped := int64(lo)
	// The upper half must be nothing but the sign of the lower one.
	if hi != wrapped>>63 {
		return 0, false
	}
	return wrapped, true
}

// CmpMul compares a * b with c * d, exactly.
func CmpMul(a, b, c, d int64) int {
	hi1, lo1 := product(a, b)
	hi2, lo2 := product(c, d)
	if hi1 != hi2 {
		return cmp.Compare(hi1, hi2)
	}
	return cmp.Compare(lo1, lo2)
}

// Share returns a * b / c rounded down, and whether there is such an int64.
func Share(a, b, c int64) (int64, bool) {
	q, exact, ok := quotient(a, b, c)
	if !ok {
		return 0, false
	}
	negative := (a < 0) != (b < 0)
	// Below zero, down is away from zero, but the quotient was cut towards it.
	if negative && !exact {
		q++
	}
	return signed(negative, q)
}

// Up returns a * b / c rounded up, and whether there is such an int64.
func Up(a, b, c int64) (int64, bool) {
	q, exact, ok := quotient(a, b, c)
	if !ok {
		return 0, false
	}
	negative := (a < 0) != (b < 0)
	// Above zero, up is away from zero, but the quotient was cut towards it.
	if !negative && !exact {
		q++
	}
	return signed(negative, q)
}

// Gcd returns the greatest common divisor of the absolute values of a and b.
func Gcd(a, b int64) int64 {
	if a == math.MinInt64 || b == math.MinInt64 {
		return 1
	}
	// A remainder is never greater than what it is left of, so no step leaves the range.
	for b != 0 {
		a, b = b, a%b
	}
	if a < 0 {
		return -a
	}
	return a
}

// Lcm returns the least positive integer that all of l divide, if it is at most most.
func Lcm(most int64, l ...int64) (int64, bool) {
	least := int64(1)
	for _, n := range l {
		if n < 1 {
			return 0, false
		}
		// Divided before it is multiplied, so that only a result that does not fit overflows.
		next, ok := Mul(least/Gcd(least, n), n)
		if !ok {
			return 0, false
		}
		least = next
	}
	if least > most {
		return 0, false
	}
	return least, true
}

// product returns a * b as the halves of one signed number of 128 bits.
func product(a, b int64) (hi int64, lo uint64) {
	top, low := bits.Mul64(uint64(a), uint64(b))
	// As an unsigned number a negative one is greater by 2^64: that surplus times the other factor stands in the upper half.
	if a < 0 {
		top -= uint64(b)
	}
	if b < 0 {
		top -= uint64(a)
	}
	return int64(top), low
}

// quotient returns |a * b| / c cut towards zero and whether nothing was cut off;
// ok is false if c is less than 1 or if not even the negative quotient fits an int64.
func quotient(a, b, c int64) (q uint64, exact, ok bool) {
	if c < 1 {
		return 0, false, false
	}
	hi, lo := bits.Mul64(magnitude(a), magnitude(b))
	divisor := uint64(c)
	// Div64 panics on a quotient of more than 64 bits.
	if hi >= divisor {
		return 0, false, false
	}
	q, rest := bits.Div64(hi, lo, divisor)
	// Also keeps a caller's q++ from wrapping round.
	if q > mostDown {
		return 0, false, false
	}
	return q, rest == 0, true
}

// magnitude returns |a|, unsigned so that it holds that of the least int64 too.
func magnitude(a int64) uint64 {
	if a < 0 {
		return -uint64(a)
	}
	return uint64(a)
}

// signed returns the number of that sign and absolute value, and whether an int64 holds it.
func signed(negative bool, size uint64) (int64, bool) {
	if negative {
		if size > mostDown {
			return 0, false
		}
		return int64(-size), true
	}
	if size > math.MaxInt64 {
		return 0, false
	}
	return int64(size), true
}
