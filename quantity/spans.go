package quantity

import "coulomb/api"

// Check reports whether a span is valid. (P1.2)
func Check(s api.Span) api.Errno {
	if !isQuantity(s.Lo) || !isQuantity(s.Hi) || s.Lo > s.Hi {
		return api.ErrArg
	}
	return api.OK
}

// Point returns the span of one number. (P1.2)
func Point(x int64) (api.Span, api.Errno) {
	if !isQuantity(x) {
		return api.Span{}, api.ErrArg
	}
	return api.Span{Lo: x, Hi: x}, api.OK
}

// Add returns the sums. (P1.3)
func Add(a, b api.Span) (api.Span, api.Errno) {
	if e := checkSpans(a, b); e != api.OK {
		return api.Span{}, e
	}
	return limitedSpan(a.Lo+b.Lo, a.Hi+b.Hi)
}

// Sub returns the differences. (P1.3)
func Sub(a, b api.Span) (api.Span, api.Errno) {
	if e := checkSpans(a, b); e != api.OK {
		return api.Span{}, e
	}
	return limitedSpan(a.Lo-b.Hi, a.Hi-b.Lo)
}

// Neg returns the numbers with the other sign. (P1.3)
func Neg(s api.Span) (api.Span, api.Errno) {
	if e := Check(s); e != api.OK {
		return api.Span{}, e
	}
	return limitedSpan(-s.Hi, -s.Lo)
}

// Scale returns the numbers x num / den. (P1.4)
func Scale(s api.Span, num, den int64) (api.Span, api.Errno) {
	if Check(s) != api.OK || !isQuantity(num) || !isDivisor(den) {
		return api.Span{}, api.ErrArg
	}
	return spanOf(ratio{s.Lo, num, den}, ratio{s.Hi, num, den})
}

// Mul returns the products x y / den. (P1.4)
func Mul(a, b api.Span, den int64) (api.Span, api.Errno) {
	if checkSpans(a, b) != api.OK || !isDivisor(den) {
		return api.Span{}, api.ErrArg
	}
	return spanOf(ratio{a.Lo, b.Lo, den}, ratio{a.Lo, b.Hi, den}, ratio{a.Hi, b.Lo, den}, ratio{a.Hi, b.Hi, den})
}

// Div returns the quotients x num / y. (P1.5)
func Div(a, b api.Span, num int64) (api.Span, api.Errno) {
	if checkSpans(a, b) != api.OK || !isQuantity(num) {
		return api.Span{}, api.ErrArg
	}
	if contains(b, 0) {
		return api.Span{}, api.ErrZero
	}
	if b.Hi < 0 { // the divisor of a ratio is above 0
		a, b = api.Span{Lo: -a.Hi, Hi: -a.Lo}, api.Span{Lo: -b.Hi, Hi: -b.Lo}
	}
	return spanOf(ratio{a.Lo, num, b.Lo}, ratio{a.Lo, num, b.Hi}, ratio{a.Hi, num, b.Lo}, ratio{a.Hi, num, b.Hi})
}

// Square returns the squares x x / den. (P1.4)
func Square(s api.Span, den int64) (api.Span, api.Errno) {
	if Check(s) != api.OK || !isDivisor(den) {
		return api.Span{}, api.ErrArg
	}
	lo, hi := ratio{s.Lo, s.Lo, den}, ratio{s.Hi, s.Hi, den}
	if contains(s, 0) { // the least square is between the ends then
		return spanOf(ratio{0, 0, den}, lo, hi)
	}
	return spanOf(lo, hi)
}

// Meet returns what is in both spans. (P1.6)
func Meet(a, b api.Span) (api.Span, api.Errno) {
	if e := checkSpans(a, b); e != api.OK {
		return api.Span{}, e
	}
	both := api.Span{Lo: max(a.Lo, b.Lo), Hi: min(a.Hi, b.Hi)}
	if both.Lo > both.Hi {
		return api.Span{}, api.ErrNone
	}
	return both, api.OK
}

// Hull returns the least span around both. (P1.6)
func Hull(a, b api.Span) (api.Span, api.Errno) {
	if e := checkSpans(a, b); e != api.OK {
		return api.Span{}, e
	}
	return api.Span{Lo: min(a.Lo, b.Lo), Hi: max(a.Hi, b.Hi)}, api.OK
}

// Has reports whether a span is valid and contains x. (P1.7)
func Has(s api.Span, x int64) bool { return Check(s) == api.OK && contains(s, x) }

// Inside reports whether both spans are valid, and b contains all numbers of a. (P1.7)
func Inside(a, b api.Span) bool {
	return checkSpans(a, b) == api.OK && contains(b, a.Lo) && contains(b, a.Hi)
}

// Width returns how wide a span is. (P1.8)
func Width(s api.Span) (int64, api.Errno) {
	if e := Check(s); e != api.OK {
		return 0, e
	}
	return limited(s.Hi - s.Lo)
}

// Middle returns the middle of a span, rounded down. (P1.8)
func Middle(s api.Span) (int64, api.Errno) {
	if e := Check(s); e != api.OK {
		return 0, e
	}
	return middle(s), api.OK
}

// Grow returns a span that is wider by d at both ends. (P1.9)
func Grow(s api.Span, d int64) (api.Span, api.Errno) {
	if Check(s) != api.OK || d < 0 || d > api.MaxQuantity {
		return api.Span{}, api.ErrArg
	}
	return limitedSpan(s.Lo-d, s.Hi+d)
}

// Clip returns a span whose ends are brought into the range from lo to hi. (P1.9)
func Clip(s api.Span, lo, hi int64) (api.Span, api.Errno) {
	if e := checkSpans(s, api.Span{Lo: lo, Hi: hi}); e != api.OK {
		return api.Span{}, e
	}
	return api.Span{Lo: min(max(s.Lo, lo), hi), Hi: min(max(s.Hi, lo), hi)}, api.OK
}

// checkSpans returns the error of the first span that has one.
func checkSpans(spans ...api.Span) api.Errno {
	for _, s := range spans {
		if e := Check(s); e != api.OK {
			return e
		}
	}
	return api.OK
}

// contains reports whether a valid span contains x.
func contains(s api.Span, x int64) bool { return s.Lo <= x && x <= s.Hi }

// middle returns the middle of a valid span, rounded down.
func middle(s api.Span) int64 { return ratio{s.Lo + s.Hi, 1, 2}.floor() }

// limitedSpan returns a result, whose ends have to be quantities.
func limitedSpan(lo, hi int64) (api.Span, api.Errno) {
	if !isQuantity(lo) || !isQuantity(hi) {
		return api.Span{}, api.ErrOver
	}
	return api.Span{Lo: lo, Hi: hi}, api.OK
}

// spanOf returns the span of some numbers: rounding keeps their order, so the rounded ones are compared.
func spanOf(first ratio, more ...ratio) (api.Span, api.Errno) {
	lo, hi := first.floor(), first.ceil()
	for _, r := range more {
		lo, hi = min(lo, r.floor()), max(hi, r.ceil())
	}
	return limitedSpan(lo, hi)
}
