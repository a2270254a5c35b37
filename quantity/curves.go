package quantity

import (
	"iter"
	"slices"

	"coulomb/api"
)

// piece is a piece of a curve: the point where it begins, how wide it is, and by how much it rises.
type piece struct{ x, y, width, rise int64 }

// CheckCurve reports whether a curve is valid. (P1.11)
func CheckCurve(c api.Curve) api.Errno { return checkCurves(c) }

// At returns the value of a curve at x. (P1.11)
func At(c api.Curve, x int64) (api.Span, api.Errno) {
	if e := CheckCurve(c); e != api.OK {
		return api.Span{}, e
	}
	if !isQuantity(x) {
		return api.Span{}, api.ErrArg
	}
	return value(c, x), api.OK
}

// Image returns the values over a span. (P1.11)
func Image(c api.Curve, s api.Span) (api.Span, api.Errno) {
	if e := checkCurveAndSpan(c, s); e != api.OK {
		return api.Span{}, e
	}
	return api.Span{Lo: value(c, s.Lo).Lo, Hi: value(c, s.Hi).Hi}, api.OK
}

// Back returns where the values are in a span. (P1.12)
func Back(c api.Curve, s api.Span) (api.Span, api.Errno) {
	if e := checkCurveAndSpan(c, s); e != api.OK {
		return api.Span{}, e
	}
	last := len(c.X) - 1
	if c.Y[last] < s.Lo || s.Hi < c.Y[0] {
		return api.Span{}, api.ErrNone
	}
	from, to := c.X[0], c.X[last]
	for _, p := range pieces(c) {
		if p.y < s.Lo && s.Lo <= p.y+p.rise {
			from = p.x + ratio{s.Lo - p.y, p.width, p.rise}.ceil()
		}
		if p.y <= s.Hi && s.Hi < p.y+p.rise {
			to = p.x + ratio{s.Hi - p.y, p.width, p.rise}.floor()
		}
	}
	if from > to { // the values of two neighbours are on both sides of the span
		return api.Span{}, api.ErrNone
	}
	return api.Span{Lo: from, Hi: to}, api.OK
}

// Steepest returns the number of the steepest piece. (P1.13)
func Steepest(c api.Curve) (int, api.Errno) {
	if e := CheckCurve(c); e != api.OK {
		return 0, e
	}
	best, steepest := 0, piece{width: 1}
	for i, p := range pieces(c) {
		if p.steeper(steepest) {
			best, steepest = i, p
		}
	}
	return best, api.OK
}

// Move returns a curve that is moved by dx and dy. (P1.13)
func Move(c api.Curve, dx, dy int64) (api.Curve, api.Errno) {
	if e := CheckCurve(c); e != api.OK {
		return api.Curve{}, e
	}
	if !isQuantity(dx) || !isQuantity(dy) {
		return api.Curve{}, api.ErrArg
	}
	moved := api.Curve{X: shifted(c.X, dx), Y: shifted(c.Y, dy)}
	if CheckCurve(moved) != api.OK { // its order is that of c: just a number can be beyond the limit
		return api.Curve{}, api.ErrOver
	}
	return moved, api.OK
}

// Blend returns the curve that is num / den of the way from c to d. (P1.14)
func Blend(c, d api.Curve, num, den int64) (api.Curve, api.Errno) {
	if e := checkCurves(c, d); e != api.OK {
		return api.Curve{}, e
	}
	if !slices.Equal(c.X, d.X) {
		return api.Curve{}, api.ErrEqual
	}
	if !isDivisor(den) || num < 0 || num > den {
		return api.Curve{}, api.ErrArg
	}
	blend := api.Curve{X: slices.Clone(c.X), Y: slices.Clone(c.Y)}
	for i := range blend.Y {
		blend.Y[i] += ratio{d.Y[i] - c.Y[i], num, den}.floor()
	}
	return blend, api.OK
}

// checkCurves returns ErrMany if one of the curves is too long, and then ErrArg if one is not valid.
func checkCurves(curves ...api.Curve) api.Errno {
	for _, c := range curves {
		if len(c.X) > api.MaxCurve || len(c.Y) > api.MaxCurve {
			return api.ErrMany
		}
	}
	for _, c := range curves {
		if !isCurve(c) {
			return api.ErrArg
		}
	}
	return api.OK
}

// checkCurveAndSpan returns the errors of a curve, and then those of a span.
func checkCurveAndSpan(c api.Curve, s api.Span) api.Errno {
	if e := CheckCurve(c); e != api.OK {
		return e
	}
	return Check(s)
}

// isCurve reports whether a curve of at most MaxCurve points is valid.
func isCurve(c api.Curve) bool {
	if len(c.X) != len(c.Y) || len(c.X) < 2 {
		return false
	}
	for i := range len(c.X) {
		if !isQuantity(c.X[i]) || !isQuantity(c.Y[i]) {
			return false
		}
		if i > 0 && (c.X[i-1] >= c.X[i] || c.Y[i-1] > c.Y[i]) {
			return false
		}
	}
	return true
}

// pieces yields the pieces of a valid curve, with their numbers.
func pieces(c api.Curve) iter.Seq2[int, piece] {
	return func(yield func(int, piece) bool) {
		for i := range len(c.X) - 1 {
			if !yield(i, piece{c.X[i], c.Y[i], c.X[i+1] - c.X[i], c.Y[i+1] - c.Y[i]}) {
				return
			}
		}
	}
}

// value returns the span of the value of a valid curve at a quantity.
func value(c api.Curve, x int64) api.Span {
	if x <= c.X[0] {
		return api.Span{Lo: c.Y[0], Hi: c.Y[0]}
	}
	for _, p := range pieces(c) {
		if x < p.x+p.width {
			part := ratio{x - p.x, p.rise, p.width}
			return api.Span{Lo: p.y + part.floor(), Hi: p.y + part.ceil()}
		}
	}
	last := c.Y[len(c.Y)-1]
	return api.Span{Lo: last, Hi: last}
}

// steeper reports whether the slope of p is greater than that of other.
func (p piece) steeper(other piece) bool {
	return product(p.rise, other.width).more(product(other.rise, p.width))
}

// shifted returns the numbers, with d added to each.
func shifted(numbers []int64, d int64) []int64 {
	sums := make([]int64, len(numbers))
	for i, x := range numbers {
		sums[i] = x + d
	}
	return sums
}
