package quantity_test

import (
	"math/big"
	"slices"
	"testing"

	"coulomb/api"
	"coulomb/quantity"
)

// curveCalls are the functions of one curve: each returns its error, and whether the other result is zero.
func curveCalls(x int64, s api.Span) map[string]func(c api.Curve) (api.Errno, bool) {
	return map[string]func(c api.Curve) (api.Errno, bool){
		"CheckCurve": func(c api.Curve) (api.Errno, bool) { return quantity.CheckCurve(c), true },
		"At":         func(c api.Curve) (api.Errno, bool) { return isZeroSpan(quantity.At(c, x)) },
		"Image":      func(c api.Curve) (api.Errno, bool) { return isZeroSpan(quantity.Image(c, s)) },
		"Back":       func(c api.Curve) (api.Errno, bool) { return isZeroSpan(quantity.Back(c, s)) },
		"Steepest": func(c api.Curve) (api.Errno, bool) {
			i, e := quantity.Steepest(c)
			return e, i == 0
		},
		"Move":    func(c api.Curve) (api.Errno, bool) { return isZeroCurve(quantity.Move(c, x, 0)) },
		"Move up": func(c api.Curve) (api.Errno, bool) { return isZeroCurve(quantity.Move(c, 0, x)) },
		"Blend of it": func(c api.Curve) (api.Errno, bool) {
			return isZeroCurve(quantity.Blend(c, curve(0, 0, 5, 5), x, 1))
		},
		"Blend with it": func(c api.Curve) (api.Errno, bool) {
			return isZeroCurve(quantity.Blend(curve(0, 0, 5, 5), c, 0, x))
		},
	}
}

func isZeroSpan(s api.Span, e api.Errno) (api.Errno, bool) { return e, s == api.Span{} }

func isZeroCurve(c api.Curve, e api.Errno) (api.Errno, bool) {
	return e, c.X == nil && c.Y == nil
}

// P1.11 to P1.14: the errors of curves, which come before all others.
func TestCurvesThatAreNotValid(t *testing.T) {
	check := func(c api.Curve, want api.Errno) {
		for _, x := range []int64{0, 1, most + 1, least - 1} {
			for name, call := range curveCalls(x, span(x, 0)) {
				if e, zero := call(c); e != want || !zero {
					t.Errorf("%s of %v with %d: %d", name, c, x, e)
				}
			}
		}
	}
	for _, c := range wildCurves() {
		check(c, api.ErrArg)
	}
	for _, c := range longCurves() {
		check(c, api.ErrMany)
	}
}

// P1.11
func TestCheckCurve(t *testing.T) {
	curves := append(smallCurves(), curve(0, 0, 1, 0), curve(least, least, most, most), curve(most-1, most, most, most), longCurve(2), longCurve(63), longCurve(64))
	for _, c := range curves {
		if e := quantity.CheckCurve(c); e != api.OK {
			t.Errorf("CheckCurve of %v: %d", c, e)
		}
	}
}

// P1.11: the examples, and the ends of curves.
func TestAtCases(t *testing.T) {
	c := curve(0, 0, 10, 5, 20, 25)
	down := curve(-10, -5, -3, 0, 4, 1)
	for _, x := range []struct {
		c    api.Curve
		x    int64
		want spanResult
	}{
		{c, 5, good(2, 3)}, {c, 12, good(9, 9)}, {c, 30, good(25, 25)}, {c, -4, good(0, 0)},
		{c, 0, good(0, 0)}, {c, 1, good(0, 1)}, {c, 9, good(4, 5)}, {c, 10, good(5, 5)}, {c, 11, good(7, 7)}, {c, 20, good(25, 25)}, {c, 21, good(25, 25)},
		{c, most, good(25, 25)}, {c, least, good(0, 0)},
		{down, -9, good(-5, -4)}, {down, -4, good(-1, 0)}, {down, -3, good(0, 0)}, {down, 3, good(0, 1)},
		{curve(least, least, most, most), least, good(least, least)},
		{curve(least, least, most, most), most, good(most, most)},
		{curve(least, least, most, most), most - 1, good(most-1, most-1)},
		{curve(least, least, most, most-1), 0, good(-1, 0)},
		{curve(least, least, most, least), 5, good(least, least)},
		{c, most + 1, bad(api.ErrArg)}, {c, least - 1, bad(api.ErrArg)},
	} {
		if got := resultOf(quantity.At(x.c, x.x)); got != x.want {
			t.Errorf("At %d of %v: %v, want %v", x.x, x.c, got, x.want)
		}
	}
	for _, x := range wildNumbers() {
		if got := resultOf(quantity.At(c, x)); got != bad(api.ErrArg) {
			t.Errorf("At %d: %v", x, got)
		}
	}
}

// checkAtAndImage compares At and Image with exact values.
func checkAtAndImage(t *testing.T, c api.Curve, s api.Span) {
	t.Helper()
	lo, hi := valueAt(c, whole(s.Lo)), valueAt(c, whole(s.Hi))
	if got, want := resultOf(quantity.At(c, s.Lo)), around(lo); got != want {
		t.Errorf("At %d of %v: %v, want %v", s.Lo, c, got, want)
	}
	if got, want := resultOf(quantity.Image(c, s)), around(lo, hi); got != want {
		t.Errorf("Image of %v, %v: %v, want %v", c, s, got, want)
	}
}

// P1.11: all small curves, and curves that are drawn, against exact values.
func TestAtAndImageExact(t *testing.T) {
	for _, c := range smallCurves() {
		for _, s := range smallSpans(6) {
			checkAtAndImage(t, c, s)
		}
	}
	r := chance(4)
	for range 5000 {
		c := drawCurve(r)
		for range 5 {
			checkAtAndImage(t, c, drawSpan(r))
			checkAtAndImage(t, c, drawPart(r, span(c.X[0], c.X[len(c.X)-1])))
		}
		for _, x := range c.X {
			checkAtAndImage(t, c, span(x, x))
			checkAtAndImage(t, c, span(max(x-1, least), min(x+1, most)))
		}
	}
	long := longCurve(64)
	for x := int64(-310); x <= 340; x++ {
		checkAtAndImage(t, long, span(x, x+7))
	}
}

// P1.11
func TestImageCases(t *testing.T) {
	c := curve(0, 0, 10, 5, 20, 25)
	for _, x := range []struct{ s, want api.Span }{
		{span(3, 12), span(1, 9)}, {span(-9, -3), span(0, 0)}, {span(21, 30), span(25, 25)}, {span(-5, 30), span(0, 25)}, {span(5, 5), span(2, 3)}, {span(least, most), span(0, 25)},
	} {
		if got := resultOf(quantity.Image(c, x.s)); got != (spanResult{x.want, api.OK}) {
			t.Errorf("Image of %v: %v", x.s, got)
		}
	}
	for _, s := range wildSpans() {
		if got := resultOf(quantity.Image(c, s)); got != bad(api.ErrArg) {
			t.Errorf("Image of %v: %v", s, got)
		}
		if got := resultOf(quantity.Back(c, s)); got != bad(api.ErrArg) {
			t.Errorf("Back of %v: %v", s, got)
		}
	}
}

// P1.12: the examples, and the ends of curves.
func TestBackCases(t *testing.T) {
	c := curve(0, 0, 10, 5, 20, 25)
	flat := curve(0, 0, 10, 5, 20, 5, 30, 9)
	steep := curve(0, 0, 1, 10, 2, 20)
	for _, x := range []struct {
		c    api.Curve
		s    api.Span
		want spanResult
	}{
		{c, span(2, 2), good(4, 4)}, {c, span(2, 3), good(4, 6)}, {c, span(26, 30), bad(api.ErrNone)}, {c, span(-3, -1), bad(api.ErrNone)},
		{c, span(0, 0), good(0, 0)}, {c, span(-9, 0), good(0, 0)}, {c, span(25, 25), good(20, 20)}, {c, span(25, 99), good(20, 20)}, {c, span(24, 24), bad(api.ErrNone)}, {c, span(24, 25), good(20, 20)},
		{c, span(-1, 26), good(0, 20)}, {c, span(least, most), good(0, 20)}, {c, span(5, 5), good(10, 10)}, {c, span(5, 6), good(10, 10)}, {c, span(6, 7), good(11, 11)}, {c, span(6, 6), bad(api.ErrNone)}, {c, span(4, 8), good(8, 11)},
		{flat, span(5, 5), good(10, 20)}, {flat, span(4, 5), good(8, 20)}, {flat, span(5, 6), good(10, 22)}, {flat, span(6, 8), good(23, 27)},
		{steep, span(1, 9), bad(api.ErrNone)}, {steep, span(1, 10), good(1, 1)}, {steep, span(10, 19), good(1, 1)}, {steep, span(11, 19), bad(api.ErrNone)}, {steep, span(20, 20), good(2, 2)},
		{curve(3, 7, 9, 7), span(7, 7), good(3, 9)}, {curve(3, 7, 9, 7), span(8, 8), bad(api.ErrNone)}, {curve(3, 7, 9, 7), span(6, 6), bad(api.ErrNone)},
		{curve(least, least, most, most), span(least, most), good(least, most)},
		{curve(least, least, most, most), span(-7, 9), good(-7, 9)},
		{curve(least, 0, most, 1), span(0, 0), good(least, least)},
		{curve(least, 0, most, 1), span(1, 1), good(most, most)},
		{curve(0, least, 1, most), span(least+1, most-1), bad(api.ErrNone)},
	} {
		if got := resultOf(quantity.Back(x.c, x.s)); got != x.want {
			t.Errorf("Back of %v, %v: %v, want %v", x.c, x.s, got, x.want)
		}
	}
}

// P1.12: all small curves, with each whole number tried.
func TestBackTried(t *testing.T) {
	for _, c := range append(smallCurves(), longCurve(64)) {
		last := c.X[len(c.X)-1]
		for _, s := range smallSpans(7) {
			want := bad(api.ErrNone)
			for x := c.X[0]; x <= last; x++ {
				if !within(valueAt(c, whole(x)), s) {
					continue
				}
				if want.errno == api.ErrNone {
					want = good(x, x)
				}
				want.span.Hi = x
			}
			if got := resultOf(quantity.Back(c, s)); got != want {
				t.Errorf("Back of %v, %v: %v, want %v", c, s, got, want)
			}
		}
	}
}

// within reports whether a span contains a rational number.
func within(x *big.Rat, s api.Span) bool {
	return x.Cmp(whole(s.Lo)) >= 0 && x.Cmp(whole(s.Hi)) <= 0
}

// P1.13
func TestSteepest(t *testing.T) {
	for _, x := range []struct {
		c    api.Curve
		want int
	}{
		{curve(0, 0, 10, 5, 20, 25), 1},
		{curve(0, 0, 10, 20, 20, 25), 0},
		{curve(0, 3, 10, 3), 0},
		{curve(0, 3, 10, 3, 20, 3, 30, 3), 0},
		{curve(0, 0, 1, 1, 2, 2, 3, 3), 0},
		{curve(0, 0, 10, 1, 20, 3, 30, 5, 40, 6), 1},
		{curve(0, 0, 3, 2, 9, 6, 10, 7), 2},
		{curve(0, 0, 3, 1, 9, 3, 10, 3), 0},
		{curve(0, 0, 2, 1, 5, 3), 1},
		{curve(least, least, 0, 0, most, most), 0},
		{curve(least, least, 0, -1, most, most), 1},
		{curve(least, least, -1, 0, most, most), 0},
		{curve(least, least, 1, 0, most, most), 1},
		{curve(least, 0, 1-most, 1, most, most), 0},
		{longCurve(64), 62},
	} {
		if i, e := quantity.Steepest(x.c); i != x.want || e != api.OK {
			t.Errorf("Steepest of %v: %d, %d", x.c, i, e)
		}
	}
	curves := smallCurves()
	r := chance(5)
	for range 5000 {
		curves = append(curves, drawCurve(r))
	}
	for _, c := range curves {
		want := 0
		for i := range len(c.X) - 1 {
			if slope(c, i).Cmp(slope(c, want)) > 0 {
				want = i
			}
		}
		if i, e := quantity.Steepest(c); i != want || e != api.OK {
			t.Errorf("Steepest of %v: %d, %d, want %d", c, i, e, want)
		}
	}
}

// checkCurve checks that a function has returned a curve.
func checkCurve(t *testing.T, name string, c api.Curve, e api.Errno, want api.Curve) {
	t.Helper()
	if e != api.OK || !slices.Equal(c.X, want.X) || !slices.Equal(c.Y, want.Y) {
		t.Errorf("%s: %v, %d, want %v", name, c, e, want)
	}
}

// checkNoCurve checks that a function has returned an error, and no curve.
func checkNoCurve(t *testing.T, name string, c api.Curve, e, want api.Errno) {
	t.Helper()
	if e != want || c.X != nil || c.Y != nil {
		t.Errorf("%s: %v, %d, want %d", name, c, e, want)
	}
}

// P1.13
func TestMove(t *testing.T) {
	c := curve(0, 1, 10, 5, 20, 25)
	for _, x := range []struct {
		dx, dy int64
		want   api.Curve
	}{
		{3, -4, curve(3, -3, 13, 1, 23, 21)},
		{0, 0, c},
		{-30, 7, curve(-30, 8, -20, 12, -10, 32)},
		{most - 20, most - 25, curve(most-20, most-24, most-10, most-20, most, most)},
		{least, least, curve(least, least+1, least+10, least+5, least+20, least+25)},
	} {
		got, e := quantity.Move(c, x.dx, x.dy)
		checkCurve(t, "Move", got, e, x.want)
	}
	got, e := quantity.Move(curve(most-1, most-1, most, most), least, least)
	checkCurve(t, "Move of a curve at the limit", got, e, curve(-1, -1, 0, 0))
	low := curve(-20, -25, 0, 0)
	for _, x := range []struct {
		c      api.Curve
		dx, dy int64
		want   api.Errno
	}{
		{c, most - 19, 0, api.ErrOver}, {c, 0, most - 24, api.ErrOver}, {c, most, most, api.ErrOver},
		{low, least + 19, 0, api.ErrOver}, {low, 0, least + 24, api.ErrOver}, {low, least, least, api.ErrOver},
		{c, most + 1, 0, api.ErrArg}, {c, 0, most + 1, api.ErrArg}, {c, least - 1, 0, api.ErrArg}, {c, 0, least - 1, api.ErrArg},
		{c, most, least - 1, api.ErrArg}, {c, most + 1, most, api.ErrArg},
	} {
		got, e := quantity.Move(x.c, x.dx, x.dy)
		checkNoCurve(t, "Move", got, e, x.want)
	}
	for _, x := range wildNumbers() {
		got, e := quantity.Move(c, x, 0)
		checkNoCurve(t, "Move", got, e, api.ErrArg)
		got, e = quantity.Move(c, 0, x)
		checkNoCurve(t, "Move", got, e, api.ErrArg)
	}
}

// P1.14
func TestBlend(t *testing.T) {
	a, b := curve(0, 0, 10, 5), curve(0, 4, 10, 10)
	low, high := curve(least, least, most, least), curve(least, most, most, most)
	for _, x := range []struct {
		c, d     api.Curve
		num, den int64
		want     api.Curve
	}{
		{a, b, 1, 2, curve(0, 2, 10, 7)},
		{b, a, 1, 2, curve(0, 2, 10, 7)},
		{a, b, 0, 5, a}, {a, b, 5, 5, b}, {a, b, 0, most, a}, {a, b, most, most, b},
		{a, b, 1, 3, curve(0, 1, 10, 6)},
		{b, a, 1, 3, curve(0, 2, 10, 8)},
		{a, b, 1, most, curve(0, 0, 10, 5)},
		{b, a, 1, most, curve(0, 3, 10, 9)},
		{curve(0, -5, 10, -5), curve(0, -4, 10, -4), 1, 2, curve(0, -5, 10, -5)},
		{low, high, 1, 2, curve(least, 0, most, 0)},
		{low, high, most, most, high},
		{high, low, most - 1, most, curve(least, least+2, most, least+2)},
		{a, a, 1, 3, a},
	} {
		got, e := quantity.Blend(x.c, x.d, x.num, x.den)
		checkCurve(t, "Blend", got, e, x.want)
	}
}

// P1.14: the errors in their order.
func TestBlendErrors(t *testing.T) {
	a, other, longer := curve(0, 0, 10, 5), curve(0, 0, 11, 5), curve(0, 0, 10, 5, 11, 6)
	wild, long := curve(0, 0, 0, 1), longCurve(65)
	for _, x := range []struct {
		c, d     api.Curve
		num, den int64
		want     api.Errno
	}{
		{long, wild, 1, 2, api.ErrMany}, {wild, long, 1, 2, api.ErrMany}, {long, a, 1, 2, api.ErrMany}, {a, long, 1, 2, api.ErrMany},
		{wild, a, 1, 2, api.ErrArg}, {a, wild, 1, 2, api.ErrArg}, {wild, other, 1, 0, api.ErrArg},
		{a, other, 1, 2, api.ErrEqual}, {a, longer, 1, 2, api.ErrEqual}, {longer, a, 1, 2, api.ErrEqual}, {a, other, 3, 2, api.ErrEqual}, {a, other, 1, 0, api.ErrEqual},
		{a, a, 3, 2, api.ErrArg}, {a, a, -1, 2, api.ErrArg}, {a, a, 0, 0, api.ErrArg}, {a, a, 0, -1, api.ErrArg}, {a, a, -2, -1, api.ErrArg}, {a, a, 0, most + 1, api.ErrArg}, {a, a, most + 1, most + 1, api.ErrArg}, {a, a, most + 1, most, api.ErrArg},
	} {
		got, e := quantity.Blend(x.c, x.d, x.num, x.den)
		checkNoCurve(t, "Blend", got, e, x.want)
	}
	for _, x := range wildNumbers() {
		got, e := quantity.Blend(a, a, x, 1)
		checkNoCurve(t, "Blend", got, e, api.ErrArg)
		got, e = quantity.Blend(a, a, 0, x)
		checkNoCurve(t, "Blend", got, e, api.ErrArg)
	}
}

// P1.14: curves that are drawn, against exact values.
func TestBlendExact(t *testing.T) {
	r := chance(6)
	for range 3000 {
		c := drawCurve(r)
		d := api.Curve{X: slices.Clone(c.X), Y: slices.Clone(c.Y)}
		for i := range d.Y {
			d.Y[i] = drawNumber(r)
		}
		slices.Sort(d.Y)
		den := max(1, drawNumber(r))
		num := r.Int63n(den + 1)
		want := api.Curve{X: slices.Clone(c.X), Y: slices.Clone(c.Y)}
		for i := range want.Y {
			want.Y[i] += down(exact(d.Y[i]-c.Y[i], num, den)).Int64()
		}
		got, e := quantity.Blend(c, d, num, den)
		checkCurve(t, "Blend", got, e, want)
		if e := quantity.CheckCurve(got); e != api.OK {
			t.Errorf("Blend of %v and %v, %d / %d: not valid", c, d, num, den)
		}
	}
}
