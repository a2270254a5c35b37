package quantity_test

import (
	"math/big"
	"slices"
	"testing"

	"coulomb/api"
	"coulomb/quantity"
)

// fractions returns numbers of a small span: its whole numbers, and thirds between them.
func fractions(s api.Span) []*big.Rat {
	var l []*big.Rat
	for n := 3 * s.Lo; n <= 3*s.Hi; n++ {
		l = append(l, big.NewRat(n, 3))
	}
	return l
}

// exactTwo is a function of two numbers, and the function of spans that encloses it.
type exactTwo struct {
	name  string
	exact func(x, y *big.Rat) *big.Rat
	spans func(a, b api.Span) (api.Span, api.Errno)
}

func exactFunctions() []exactTwo {
	seven := big.NewRat(7, 1)
	return []exactTwo{
		{"Add", func(x, y *big.Rat) *big.Rat { return new(big.Rat).Add(x, y) }, quantity.Add},
		{"Sub", func(x, y *big.Rat) *big.Rat { return new(big.Rat).Sub(x, y) }, quantity.Sub},
		{"Neg", func(x, _ *big.Rat) *big.Rat { return new(big.Rat).Neg(x) }, func(a, _ api.Span) (api.Span, api.Errno) { return quantity.Neg(a) }},
		{"Scale", func(x, _ *big.Rat) *big.Rat { return new(big.Rat).Mul(x, big.NewRat(-5, 7)) }, func(a, _ api.Span) (api.Span, api.Errno) { return quantity.Scale(a, -5, 7) }},
		{"Mul", func(x, y *big.Rat) *big.Rat { return new(big.Rat).Quo(new(big.Rat).Mul(x, y), seven) }, func(a, b api.Span) (api.Span, api.Errno) { return quantity.Mul(a, b, 7) }},
		{"Square", func(x, _ *big.Rat) *big.Rat { return new(big.Rat).Quo(new(big.Rat).Mul(x, x), seven) }, func(a, _ api.Span) (api.Span, api.Errno) { return quantity.Square(a, 7) }},
		{"Div", func(x, y *big.Rat) *big.Rat { return new(big.Rat).Quo(new(big.Rat).Mul(x, seven), y) }, func(a, b api.Span) (api.Span, api.Errno) { return quantity.Div(a, b, 7) }},
	}
}

// P1.19, P1.20: the numbers of small spans, also those between whole ones.
func TestNothingIsLostAndNothingTooMuch(t *testing.T) {
	for _, f := range exactFunctions() {
		for _, a := range smallSpans(3) {
			for _, b := range smallSpans(3) {
				s, e := f.spans(a, b)
				if e == api.ErrZero && f.name == "Div" && quantity.Has(b, 0) {
					continue
				}
				if e != api.OK {
					t.Fatalf("%s of %v and %v: %d", f.name, a, b, e)
				}
				checkEnclosed(t, f, a, b, s)
			}
		}
	}
}

// checkEnclosed checks that a span contains the values for all fractions of two spans, and that both of its ends are needed.
func checkEnclosed(t *testing.T, f exactTwo, a, b, s api.Span) {
	t.Helper()
	low, high := false, false
	for _, x := range fractions(a) {
		for _, y := range fractions(b) {
			z := f.exact(x, y)
			if !within(z, s) {
				t.Errorf("%s of %v and %v: %v is not in %v", f.name, a, b, z, s)
			}
			low = low || z.Cmp(whole(s.Lo+1)) < 0
			high = high || z.Cmp(whole(s.Hi-1)) > 0
		}
	}
	if !low || !high {
		t.Errorf("%s of %v and %v: %v is too wide", f.name, a, b, s)
	}
}

// P1.19: what is in both spans, and what is in one of them.
func TestNothingIsLostOfMeetAndHull(t *testing.T) {
	for _, a := range smallSpans(3) {
		for _, b := range smallSpans(3) {
			meet, none := quantity.Meet(a, b)
			hull, e := quantity.Hull(a, b)
			if e != api.OK {
				t.Errorf("Hull of %v and %v: %d", a, b, e)
			}
			for _, x := range fractions(span(-3, 3)) {
				inA, inB := within(x, a), within(x, b)
				if got := none == api.OK && within(x, meet); got != (inA && inB) {
					t.Errorf("Meet of %v and %v, %v: %t", a, b, x, got)
				}
				if (inA || inB) && !within(x, hull) {
					t.Errorf("Hull of %v and %v: %v is lost", a, b, x)
				}
			}
		}
	}
}

// P1.19, P1.20: the values of a curve.
func TestNothingIsLostOfImage(t *testing.T) {
	for _, c := range smallCurves() {
		for _, s := range smallSpans(5) {
			image, e := quantity.Image(c, s)
			if e != api.OK {
				t.Errorf("Image of %v, %v: %d", c, s, e)
			}
			low, high := false, false
			for _, x := range fractions(s) {
				y := valueAt(c, x)
				if !within(y, image) {
					t.Errorf("Image of %v, %v: %v is not in %v", c, s, y, image)
				}
				low = low || y.Cmp(whole(image.Lo+1)) < 0
				high = high || y.Cmp(whole(image.Hi-1)) > 0
			}
			if !low || !high {
				t.Errorf("Image of %v, %v: %v is too wide", c, s, image)
			}
		}
	}
}

// P1.21: spans that are drawn, and parts of them.
func TestSmallerSpans(t *testing.T) {
	r := chance(7)
	for range 10000 {
		a, b := drawSpan(r), drawSpan(r)
		partA, partB := drawPart(r, a), drawPart(r, b)
		num, den, d := drawNumber(r), max(1, drawNumber(r)), max(0, drawNumber(r))
		c, bounds := drawCurve(r), drawSpan(r)
		for _, f := range []two{
			{"Add", quantity.Add}, {"Sub", quantity.Sub}, {"Meet", quantity.Meet}, {"Hull", quantity.Hull},
			{"Neg", func(a, _ api.Span) (api.Span, api.Errno) { return quantity.Neg(a) }},
			{"Scale", func(a, _ api.Span) (api.Span, api.Errno) { return quantity.Scale(a, num, den) }},
			{"Mul", func(a, b api.Span) (api.Span, api.Errno) { return quantity.Mul(a, b, den) }},
			{"Div", func(a, b api.Span) (api.Span, api.Errno) { return quantity.Div(a, b, num) }},
			{"Square", func(a, _ api.Span) (api.Span, api.Errno) { return quantity.Square(a, den) }},
			{"Grow", func(a, _ api.Span) (api.Span, api.Errno) { return quantity.Grow(a, d) }},
			{"Clip", func(a, _ api.Span) (api.Span, api.Errno) { return quantity.Clip(a, bounds.Lo, bounds.Hi) }},
			{"Image", func(a, _ api.Span) (api.Span, api.Errno) { return quantity.Image(c, a) }},
		} {
			outer, e := f.call(a, b)
			if e != api.OK {
				continue
			}
			inner, e := f.call(partA, partB)
			if e == api.ErrNone && f.name == "Meet" {
				continue
			}
			if e != api.OK || !quantity.Inside(inner, outer) {
				t.Errorf("%s of %v and %v: %v, of %v and %v: %v, %d", f.name, a, b, outer, partA, partB, inner, e)
			}
		}
	}
}

// P1.22: the curve and back.
func TestThereAndBack(t *testing.T) {
	r := chance(8)
	for range 5000 {
		c := drawCurve(r)
		last := c.X[len(c.X)-1]
		for _, x := range append(slices.Clone(c.X), drawPart(r, span(c.X[0], last)).Lo) {
			at, e := quantity.At(c, x)
			if e != api.OK {
				t.Errorf("At %d of %v: %d", x, c, e)
			}
			back, e := quantity.Back(c, at)
			if e != api.OK || !quantity.Has(back, x) {
				t.Errorf("Back of %v, %v: %v, %d: %d is lost", c, at, back, e, x)
			}
		}
		for range 5 {
			checkBack(t, c, drawSpan(r))
			checkBack(t, c, drawPart(r, span(c.Y[0], c.Y[len(c.Y)-1])))
		}
		for _, y := range c.Y {
			checkBack(t, c, span(y, y))
		}
	}
}

// checkBack checks that the ends of what Back returns have values in the span, and their neighbours none.
func checkBack(t *testing.T, c api.Curve, s api.Span) {
	t.Helper()
	back, e := quantity.Back(c, s)
	last := c.X[len(c.X)-1]
	if e == api.ErrNone {
		// the last whole number with a value below the span: the next one has to be above it, or beyond the curve
		below, found := lastBelow(c, s.Lo)
		if next := below + 1; found && next <= last && within(valueAt(c, whole(next)), s) || !found && within(whole(c.Y[0]), s) {
			t.Errorf("Back of %v, %v: nothing", c, s)
		}
		return
	}
	if e != api.OK || back.Lo > back.Hi || back.Lo < c.X[0] || back.Hi > last {
		t.Errorf("Back of %v, %v: %v, %d", c, s, back, e)
		return
	}
	for _, x := range []int64{back.Lo, back.Hi, back.Lo + (back.Hi-back.Lo)/2} {
		if !within(valueAt(c, whole(x)), s) {
			t.Errorf("Back of %v, %v: %v: the value at %d is not in the span", c, s, back, x)
		}
	}
	for _, x := range []int64{back.Lo - 1, back.Hi + 1} {
		if c.X[0] <= x && x <= last && within(valueAt(c, whole(x)), s) {
			t.Errorf("Back of %v, %v: %v: the value at %d is in the span", c, s, back, x)
		}
	}
}

// lastBelow returns the last whole number of a curve with a value less than y, and whether there is one.
func lastBelow(c api.Curve, y int64) (int64, bool) {
	from, to := c.X[0], c.X[len(c.X)-1]
	if c.Y[0] >= y {
		return 0, false
	}
	for from < to {
		middle := from + (to-from+1)/2
		if valueAt(c, whole(middle)).Cmp(whole(y)) < 0 {
			from = middle
		} else {
			to = middle - 1
		}
	}
	return from, true
}

// P1.23: all points of small boxes, and points that are drawn.
func TestHalves(t *testing.T) {
	check := func(b []api.Span, i int, p []int64) {
		low, high, e := quantity.Halve(b, i)
		if e != api.OK {
			t.Errorf("Halve(%v, %d): %d", b, i, e)
		}
		inLow, inHigh := quantity.BoxHas(low, p), quantity.BoxHas(high, p)
		if got := inLow != inHigh; got != quantity.BoxHas(b, p) {
			t.Errorf("Halve(%v, %d): %v and %v have %v: %t, %t", b, i, low, high, p, inLow, inHigh)
		}
	}
	for _, a := range smallSpans(3) {
		for x := a.Lo - 1; x <= a.Hi+1 && a.Lo < a.Hi; x++ {
			check([]api.Span{a, span(-1, 1)}, 0, []int64{x, 0})
			check([]api.Span{span(-1, 1), a}, 1, []int64{1, x})
			check([]api.Span{span(-1, 1), a}, 1, []int64{2, x})
		}
	}
	r := chance(9)
	for range 5000 {
		b, p := make([]api.Span, 1+r.Intn(8)), []int64{}
		for i := range b {
			b[i] = drawSpan(r)
			p = append(p, drawPart(r, b[i]).Lo)
		}
		if i := r.Intn(len(b)); b[i].Lo < b[i].Hi {
			check(b, i, p)
		}
	}
}
