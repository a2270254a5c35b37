// Package quantity is layer 1: whole numbers of small units, spans that are rounded outwards, piecewise linear curves, and boxes. See shared/doc/01-quantity.md.
package quantity

import (
	"math/bits"

	"coulomb/api"
)

// far is beyond every quantity, yet a sum of it and a quantity still fits a word.
const far = 1 << 62

// ratio is the exact number a b / den. The amounts of a and b are at most 2^41, and den is from 1 to 2^41: differences of quantities have to fit.
type ratio struct{ a, b, den int64 }

// digits is a whole number from 0 on: two words, the high one first.
type digits [2]uint64

// Floor returns x num / den, rounded down. (P1.1)
func Floor(x, num, den int64) (int64, api.Errno) {
	return rounded(x, num, den, ratio.floor)
}

// Ceil returns x num / den, rounded up. (P1.1)
func Ceil(x, num, den int64) (int64, api.Errno) {
	return rounded(x, num, den, ratio.ceil)
}

// Round returns x num / den, rounded to the nearest number, and a half up. (P1.1)
func Round(x, num, den int64) (int64, api.Errno) {
	return rounded(x, num, den, ratio.nearest)
}

// rounded returns x num / den as a whole number.
func rounded(x, num, den int64, round func(ratio) int64) (int64, api.Errno) {
	if !isQuantity(x) || !isQuantity(num) || !isDivisor(den) {
		return 0, api.ErrArg
	}
	return limited(round(ratio{x, num, den}))
}

// limited returns a result, which has to be a quantity.
func limited(x int64) (int64, api.Errno) {
	if !isQuantity(x) {
		return 0, api.ErrOver
	}
	return x, api.OK
}

// isQuantity reports whether x is a quantity.
func isQuantity(x int64) bool { return -api.MaxQuantity <= x && x <= api.MaxQuantity }

// isDivisor reports whether den is from 1 to MaxQuantity.
func isDivisor(den int64) bool { return 1 <= den && den <= api.MaxQuantity }

// floor returns the number, rounded down.
func (r ratio) floor() int64 {
	whole, _ := r.split()
	return whole
}

// ceil returns the number, rounded up.
func (r ratio) ceil() int64 {
	whole, rest := r.split()
	if rest > 0 {
		whole++
	}
	return whole
}

// nearest returns the number and a half, rounded down.
func (r ratio) nearest() int64 {
	whole, rest := r.split()
	if 2*rest >= r.den {
		whole++
	}
	return whole
}

// split returns the number rounded down, and the rest of the division, from 0 to den - 1. A number that is beyond far is brought to about there: it is no quantity in any case, and the order of numbers is kept.
func (r ratio) split() (whole, rest int64) {
	quotient, remainder := product(r.a, r.b).divide(r.den)
	if quotient[0] > 0 || quotient[1] > far {
		quotient = digits{0, far}
	}
	whole = int64(quotient[1])
	if (r.a < 0) == (r.b < 0) {
		return whole, remainder
	}
	if remainder > 0 {
		return -whole - 1, r.den - remainder
	}
	return -whole, 0
}

// product returns the amount of a b, which may need both words.
func product(a, b int64) digits {
	high, low := bits.Mul64(amount(a), amount(b))
	return digits{high, low}
}

// divide returns the quotient and the rest of a division by den. The rest of a digit is less than den, so the quotient of the next one fits a word.
func (d digits) divide(den int64) (quotient digits, rest int64) {
	var left uint64
	for i := range len(d) {
		quotient[i], left = bits.Div64(left, d[i], uint64(den))
	}
	return quotient, int64(left)
}

// more reports whether d is greater than other.
func (d digits) more(other digits) bool {
	if d[0] != other[0] {
		return d[0] > other[0]
	}
	return d[1] > other[1]
}

// amount returns the distance of x from 0.
func amount(x int64) uint64 {
	if x < 0 {
		return uint64(-x)
	}
	return uint64(x)
}
