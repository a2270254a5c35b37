package quantity_test

import (
	"math"
	"math/big"
	"testing"

	"coulomb/api"
	"coulomb/quantity"
)

// one is a function of one span, two one of two spans; their other arguments are possible.
type one struct {
	name string
	call func(s api.Span) (api.Span, api.Errno)
}

type two struct {
	name string
	call func(a, b api.Span) (api.Span, api.Errno)
}

func functionsOfOne() []one {
	return []one{
		{"Neg", quantity.Neg},
		{"Scale", func(s api.Span) (api.Span, api.Errno) { return quantity.Scale(s, 3, 2) }},
		{"Square", func(s api.Span) (api.Span, api.Errno) { return quantity.Square(s, 3) }},
		{"Grow", func(s api.Span) (api.Span, api.Errno) { return quantity.Grow(s, 5) }},
		{"Clip", func(s api.Span) (api.Span, api.Errno) { return quantity.Clip(s, -2, 2) }},
	}
}

func functionsOfTwo() []two {
	return []two{
		{"Add", quantity.Add},
		{"Sub", quantity.Sub},
		{"Mul", func(a, b api.Span) (api.Span, api.Errno) { return quantity.Mul(a, b, 2) }},
		{"Div", func(a, b api.Span) (api.Span, api.Errno) { return quantity.Div(a, b, 3) }},
		{"Meet", quantity.Meet},
		{"Hull", quantity.Hull},
	}
}

// P1.2 to P1.9: the error of a span that is not valid, at each place, and before all other errors.
func TestSpansThatAreNotValid(t *testing.T) {
	for _, wild := range wildSpans() {
		for _, f := range functionsOfOne() {
			if got := resultOf(f.call(wild)); got != bad(api.ErrArg) {
				t.Errorf("%s of %v: %v", f.name, wild, got)
			}
		}
		for _, f := range functionsOfTwo() {
			for _, s := range append(wildSpans(), span(0, 0), span(1, 2), span(least, most)) {
				if got := resultOf(f.call(wild, s)); got != bad(api.ErrArg) {
					t.Errorf("%s of %v and %v: %v", f.name, wild, s, got)
				}
				if got := resultOf(f.call(s, wild)); got != bad(api.ErrArg) {
					t.Errorf("%s of %v and %v: %v", f.name, s, wild, got)
				}
			}
		}
		if got := numberOf(quantity.Width(wild)); got != (numberResult{0, api.ErrArg}) {
			t.Errorf("Width of %v: %v", wild, got)
		}
		if got := numberOf(quantity.Middle(wild)); got != (numberResult{0, api.ErrArg}) {
			t.Errorf("Middle of %v: %v", wild, got)
		}
	}
}

// P1.2
func TestCheck(t *testing.T) {
	for _, s := range append(smallSpans(3), edgeSpans()...) {
		if e := quantity.Check(s); e != api.OK {
			t.Errorf("Check of %v: %d", s, e)
		}
	}
	for _, s := range wildSpans() {
		if e := quantity.Check(s); e != api.ErrArg {
			t.Errorf("Check of %v: %d", s, e)
		}
	}
}

// P1.2
func TestPoint(t *testing.T) {
	for _, x := range edgeNumbers() {
		if got := resultOf(quantity.Point(x)); got != good(x, x) {
			t.Errorf("Point of %d: %v", x, got)
		}
	}
	for _, x := range wildNumbers() {
		if got := resultOf(quantity.Point(x)); got != bad(api.ErrArg) {
			t.Errorf("Point of %d: %v", x, got)
		}
	}
}

// P1.3
func TestSums(t *testing.T) {
	for i, x := range []struct{ got, want spanResult }{
		{resultOf(quantity.Add(span(1, 2), span(-3, 5))), good(-2, 7)},
		{resultOf(quantity.Sub(span(1, 2), span(-3, 5))), good(-4, 5)},
		{resultOf(quantity.Add(span(most-1, most-1), span(0, 1))), good(most-1, most)},
		{resultOf(quantity.Add(span(0, most), span(0, 1))), bad(api.ErrOver)},
		{resultOf(quantity.Add(span(least, 0), span(0, 1))), good(least, 1)},
		{resultOf(quantity.Add(span(least, 0), span(-1, 1))), bad(api.ErrOver)},
		{resultOf(quantity.Add(span(most, most), span(most, most))), bad(api.ErrOver)},
		{resultOf(quantity.Sub(span(most, most), span(0, 1))), good(most-1, most)},
		{resultOf(quantity.Sub(span(0, most), span(-1, 0))), bad(api.ErrOver)},
		{resultOf(quantity.Sub(span(least, 0), span(0, 1))), bad(api.ErrOver)},
		{resultOf(quantity.Sub(span(least, least), span(most, most))), bad(api.ErrOver)},
		{resultOf(quantity.Neg(span(-1, 4))), good(-4, 1)},
		{resultOf(quantity.Neg(span(least, most))), good(least, most)},
		{resultOf(quantity.Neg(span(least, least))), good(most, most)},
		{resultOf(quantity.Neg(span(0, 0))), good(0, 0)},
	} {
		if x.got != x.want {
			t.Errorf("case %d: %v, want %v", i, x.got, x.want)
		}
	}
}

// P1.3: all edge spans, against exact sums.
func TestSumsExact(t *testing.T) {
	for _, a := range edgeSpans() {
		if got, want := resultOf(quantity.Neg(a)), around(exact(a.Lo, -1, 1), exact(a.Hi, -1, 1)); got != want {
			t.Errorf("Neg(%v): %v, want %v", a, got, want)
		}
		for _, b := range edgeSpans() {
			if got, want := resultOf(quantity.Add(a, b)), around(whole(a.Lo+b.Lo), whole(a.Hi+b.Hi)); got != want {
				t.Errorf("Add(%v, %v): %v, want %v", a, b, got, want)
			}
			if got, want := resultOf(quantity.Sub(a, b)), around(whole(a.Lo-b.Hi), whole(a.Hi-b.Lo)); got != want {
				t.Errorf("Sub(%v, %v): %v, want %v", a, b, got, want)
			}
		}
	}
}

// P1.4
func TestProducts(t *testing.T) {
	for i, x := range []struct{ got, want spanResult }{
		{resultOf(quantity.Scale(span(1, 2), -1, 3)), good(-1, 0)},
		{resultOf(quantity.Scale(span(1, 2), 1, 3)), good(0, 1)},
		{resultOf(quantity.Scale(span(-5, 4), -3, 2)), good(-6, 8)},
		{resultOf(quantity.Scale(span(-5, 4), 0, 2)), good(0, 0)},
		{resultOf(quantity.Scale(span(least, most), most, most)), good(least, most)},
		{resultOf(quantity.Scale(span(least, most), least, most)), good(least, most)},
		{resultOf(quantity.Scale(span(0, most), 2, 1)), bad(api.ErrOver)},
		{resultOf(quantity.Scale(span(0, most), -2, 1)), bad(api.ErrOver)},
		{resultOf(quantity.Scale(span(most, most), most, 1)), bad(api.ErrOver)},
		{resultOf(quantity.Mul(span(-2, 3), span(-5, 4), 1)), good(-15, 12)},
		{resultOf(quantity.Mul(span(-2, 3), span(-5, 4), 7)), good(-3, 2)},
		{resultOf(quantity.Mul(span(2, 3), span(4, 5), 2)), good(4, 8)},
		{resultOf(quantity.Mul(span(-3, -2), span(4, 5), 2)), good(-8, -4)},
		{resultOf(quantity.Mul(span(-3, -2), span(-5, -4), 1)), good(8, 15)},
		{resultOf(quantity.Mul(span(-1, 1), span(least, most), 1)), good(least, most)},
		{resultOf(quantity.Mul(span(most, most), span(most, most), 1)), bad(api.ErrOver)},
		{resultOf(quantity.Mul(span(1<<32, 1<<32), span(1<<32, 1<<32), 1)), bad(api.ErrOver)},
		{resultOf(quantity.Mul(span(most, most), span(least, least), most)), good(least, least)},
		{resultOf(quantity.Square(span(-3, 2), 2)), good(0, 5)},
		{resultOf(quantity.Square(span(-2, 1), 1)), good(0, 4)},
		{resultOf(quantity.Square(span(-3, -2), 1)), good(4, 9)},
		{resultOf(quantity.Square(span(2, 3), 5)), good(0, 2)},
		{resultOf(quantity.Square(span(0, 3), 1)), good(0, 9)},
		{resultOf(quantity.Square(span(-3, 0), 1)), good(0, 9)},
		{resultOf(quantity.Square(span(1<<20, 1<<20), 1)), good(most, most)},
		{resultOf(quantity.Square(span(0, 1<<20+1), 1)), bad(api.ErrOver)},
		{resultOf(quantity.Square(span(least, most), most)), good(0, most)},
		{resultOf(quantity.Square(span(least, most), most-1)), bad(api.ErrOver)},
	} {
		if x.got != x.want {
			t.Errorf("case %d: %v, want %v", i, x.got, x.want)
		}
	}
}

// P1.4: divisors and factors that are not possible.
func TestProductArguments(t *testing.T) {
	for _, den := range wildDivisors() {
		for name, got := range map[string]spanResult{
			"Scale":  resultOf(quantity.Scale(span(0, most), most, den)),
			"Mul":    resultOf(quantity.Mul(span(0, 1), span(0, 1), den)),
			"Square": resultOf(quantity.Square(span(0, 1), den)),
		} {
			if got != bad(api.ErrArg) {
				t.Errorf("%s with den %d: %v", name, den, got)
			}
		}
	}
	for _, num := range wildNumbers() {
		if got := resultOf(quantity.Scale(span(0, 0), num, 1)); got != bad(api.ErrArg) {
			t.Errorf("Scale with num %d: %v", num, got)
		}
		if got := resultOf(quantity.Div(span(0, 0), span(1, 1), num)); got != bad(api.ErrArg) {
			t.Errorf("Div with num %d: %v", num, got)
		}
		if got := resultOf(quantity.Div(span(0, 0), span(0, 1), num)); got != bad(api.ErrArg) {
			t.Errorf("Div by 0 with num %d: %v", num, got)
		}
	}
}

// wantSquare returns the span of the squares.
func wantSquare(s api.Span, den int64) spanResult {
	numbers := []*big.Rat{exact(s.Lo, s.Lo, den), exact(s.Hi, s.Hi, den)}
	if s.Lo <= 0 && s.Hi >= 0 {
		numbers = append(numbers, whole(0))
	}
	return around(numbers...)
}

// wantMul returns the span of the products.
func wantMul(a, b api.Span, den int64) spanResult {
	return around(exact(a.Lo, b.Lo, den), exact(a.Lo, b.Hi, den), exact(a.Hi, b.Lo, den), exact(a.Hi, b.Hi, den))
}

// wantDiv returns the span of the quotients.
func wantDiv(a, b api.Span, num int64) spanResult {
	if b.Lo <= 0 && b.Hi >= 0 {
		return bad(api.ErrZero)
	}
	return around(exact(a.Lo, num, b.Lo), exact(a.Lo, num, b.Hi), exact(a.Hi, num, b.Lo), exact(a.Hi, num, b.Hi))
}

// checkProducts compares Scale, Mul, Square and Div with exact fractions.
func checkProducts(t *testing.T, a, b api.Span, num, den int64) {
	t.Helper()
	if got, want := resultOf(quantity.Scale(a, num, den)), around(exact(a.Lo, num, den), exact(a.Hi, num, den)); got != want {
		t.Errorf("Scale(%v, %d, %d): %v, want %v", a, num, den, got, want)
	}
	if got, want := resultOf(quantity.Square(a, den)), wantSquare(a, den); got != want {
		t.Errorf("Square(%v, %d): %v, want %v", a, den, got, want)
	}
	if got, want := resultOf(quantity.Mul(a, b, den)), wantMul(a, b, den); got != want {
		t.Errorf("Mul(%v, %v, %d): %v, want %v", a, b, den, got, want)
	}
	if got, want := resultOf(quantity.Div(a, b, num)), wantDiv(a, b, num); got != want {
		t.Errorf("Div(%v, %v, %d): %v, want %v", a, b, num, got, want)
	}
}

// P1.4, P1.5: small spans, edge spans and spans that are drawn.
func TestProductsExact(t *testing.T) {
	for _, a := range smallSpans(3) {
		for _, b := range smallSpans(3) {
			for num := int64(-3); num <= 3; num++ {
				checkProducts(t, a, b, num, num+4)
			}
		}
	}
	r := chance(2)
	edges, numbers, divisors := edgeSpans(), edgeNumbers(), edgeDivisors()
	for range 30000 {
		a, b := edges[r.Intn(len(edges))], edges[r.Intn(len(edges))]
		checkProducts(t, a, b, numbers[r.Intn(len(numbers))], divisors[r.Intn(len(divisors))])
		checkProducts(t, drawSpan(r), drawSpan(r), drawNumber(r), max(1, drawNumber(r)))
	}
}

// P1.5
func TestQuotients(t *testing.T) {
	for i, x := range []struct{ got, want spanResult }{
		{resultOf(quantity.Div(span(1, 2), span(-4, -3), 10)), good(-7, -2)},
		{resultOf(quantity.Div(span(1, 2), span(0, 3), 1)), bad(api.ErrZero)},
		{resultOf(quantity.Div(span(1, 2), span(-3, 0), 1)), bad(api.ErrZero)},
		{resultOf(quantity.Div(span(1, 2), span(-3, 3), 1)), bad(api.ErrZero)},
		{resultOf(quantity.Div(span(0, 0), span(0, 0), 0)), bad(api.ErrZero)},
		{resultOf(quantity.Div(span(most, most), span(0, 0), most)), bad(api.ErrZero)},
		{resultOf(quantity.Div(span(1, 2), span(1, 3), 1)), good(0, 2)},
		{resultOf(quantity.Div(span(-1, 2), span(-3, -1), 1)), good(-2, 1)},
		{resultOf(quantity.Div(span(-5, -2), span(-3, -2), 1)), good(0, 3)},
		{resultOf(quantity.Div(span(-5, 7), span(2, 3), -1)), good(-4, 3)},
		{resultOf(quantity.Div(span(least, most), span(1, most), 1)), good(least, most)},
		{resultOf(quantity.Div(span(least, most), span(least, -1), 1)), good(least, most)},
		{resultOf(quantity.Div(span(least, most), span(1, 1), 2)), bad(api.ErrOver)},
		{resultOf(quantity.Div(span(most, most), span(least, -1), most)), bad(api.ErrOver)},
		{resultOf(quantity.Div(span(most, most), span(most, most), most)), good(most, most)},
		{resultOf(quantity.Div(span(least, least), span(least, least), least)), good(least, least)},
	} {
		if x.got != x.want {
			t.Errorf("case %d: %v, want %v", i, x.got, x.want)
		}
	}
}

// P1.6
func TestMeetAndHull(t *testing.T) {
	for _, x := range []struct {
		a, b       api.Span
		meet, hull spanResult
	}{
		{span(1, 3), span(3, 5), good(3, 3), good(1, 5)},
		{span(1, 2), span(3, 5), bad(api.ErrNone), good(1, 5)},
		{span(1, 2), span(5, 6), bad(api.ErrNone), good(1, 6)},
		{span(5, 6), span(1, 2), bad(api.ErrNone), good(1, 6)},
		{span(1, 9), span(3, 5), good(3, 5), good(1, 9)},
		{span(3, 5), span(1, 9), good(3, 5), good(1, 9)},
		{span(-4, 2), span(-1, 7), good(-1, 2), good(-4, 7)},
		{span(-1, 7), span(-4, 2), good(-1, 2), good(-4, 7)},
		{span(4, 4), span(4, 4), good(4, 4), good(4, 4)},
		{span(least, most), span(0, 0), good(0, 0), good(least, most)},
		{span(least, least), span(most, most), bad(api.ErrNone), good(least, most)},
		{span(least, -1), span(-1, most), good(-1, -1), good(least, most)},
	} {
		if got := resultOf(quantity.Meet(x.a, x.b)); got != x.meet {
			t.Errorf("Meet(%v, %v): %v", x.a, x.b, got)
		}
		if got := resultOf(quantity.Hull(x.a, x.b)); got != x.hull {
			t.Errorf("Hull(%v, %v): %v", x.a, x.b, got)
		}
	}
}

// P1.7
func TestHas(t *testing.T) {
	for _, s := range smallSpans(3) {
		for x := int64(-5); x <= 5; x++ {
			if got, want := quantity.Has(s, x), s.Lo <= x && x <= s.Hi; got != want {
				t.Errorf("Has(%v, %d): %t", s, x, got)
			}
		}
	}
	for _, x := range edgeNumbers() {
		if !quantity.Has(span(least, most), x) {
			t.Errorf("Has: %d is not in all quantities", x)
		}
	}
	for _, x := range wildNumbers() {
		if quantity.Has(span(least, most), x) {
			t.Errorf("Has: %d is in all quantities", x)
		}
	}
	for _, s := range wildSpans() {
		for _, x := range append(edgeNumbers(), wildNumbers()...) {
			if quantity.Has(s, x) {
				t.Errorf("Has: %d is in %v", x, s)
			}
		}
	}
	if quantity.Has(span(math.MinInt64, math.MaxInt64), 0) {
		t.Error("Has: 0 is in a span that is not valid")
	}
}

// P1.7
func TestInside(t *testing.T) {
	for _, a := range smallSpans(3) {
		for _, b := range smallSpans(3) {
			if got, want := quantity.Inside(a, b), b.Lo <= a.Lo && a.Hi <= b.Hi; got != want {
				t.Errorf("Inside(%v, %v): %t", a, b, got)
			}
		}
	}
	if !quantity.Inside(span(least, most), span(least, most)) {
		t.Error("Inside: all quantities are not inside of themselves")
	}
	for _, wild := range wildSpans() {
		for _, s := range append(wildSpans(), span(0, 0), span(1, 2), span(least, most)) {
			if quantity.Inside(wild, s) || quantity.Inside(s, wild) {
				t.Errorf("Inside with %v and %v, of which one is not valid", wild, s)
			}
		}
	}
}

// P1.8
func TestWidthAndMiddle(t *testing.T) {
	over := numberResult{0, api.ErrOver}
	for _, x := range []struct {
		s             api.Span
		width, middle numberResult
	}{
		{span(1, 4), numberResult{3, 0}, numberResult{2, 0}},
		{span(1, 5), numberResult{4, 0}, numberResult{3, 0}},
		{span(-4, 1), numberResult{5, 0}, numberResult{-2, 0}},
		{span(-4, -3), numberResult{1, 0}, numberResult{-4, 0}},
		{span(-1, 0), numberResult{1, 0}, numberResult{-1, 0}},
		{span(7, 7), numberResult{0, 0}, numberResult{7, 0}},
		{span(0, most), numberResult{most, 0}, numberResult{most / 2, 0}},
		{span(-1, most), over, numberResult{most/2 - 1, 0}},
		{span(least, 0), numberResult{most, 0}, numberResult{least / 2, 0}},
		{span(least, 1), over, numberResult{least / 2, 0}},
		{span(least, most), over, numberResult{0, 0}},
		{span(most-1, most), numberResult{1, 0}, numberResult{most - 1, 0}},
		{span(least, least+1), numberResult{1, 0}, numberResult{least, 0}},
		{span(most, most), numberResult{0, 0}, numberResult{most, 0}},
		{span(least, least), numberResult{0, 0}, numberResult{least, 0}},
	} {
		if got := numberOf(quantity.Width(x.s)); got != x.width {
			t.Errorf("Width(%v): %v", x.s, got)
		}
		if got := numberOf(quantity.Middle(x.s)); got != x.middle {
			t.Errorf("Middle(%v): %v", x.s, got)
		}
	}
}

// P1.9
func TestGrow(t *testing.T) {
	for _, x := range []struct {
		s    api.Span
		d    int64
		want spanResult
	}{
		{span(1, 2), 3, good(-2, 5)},
		{span(1, 2), 0, good(1, 2)},
		{span(0, 0), most, good(least, most)},
		{span(0, 1), most, bad(api.ErrOver)},
		{span(-1, 0), most, bad(api.ErrOver)},
		{span(least, least), 1, bad(api.ErrOver)},
		{span(most, most), 1, bad(api.ErrOver)},
		{span(least, most), 0, good(least, most)},
		{span(least, most), most, bad(api.ErrOver)},
		{span(1, 2), -1, bad(api.ErrArg)},
		{span(1, 2), most + 1, bad(api.ErrArg)},
		{span(least, most), -1, bad(api.ErrArg)},
		{span(1, 2), math.MinInt64, bad(api.ErrArg)},
		{span(1, 2), math.MaxInt64, bad(api.ErrArg)},
	} {
		if got := resultOf(quantity.Grow(x.s, x.d)); got != x.want {
			t.Errorf("Grow(%v, %d): %v, want %v", x.s, x.d, got, x.want)
		}
	}
}

// P1.9
func TestClip(t *testing.T) {
	for _, x := range []struct {
		s      api.Span
		lo, hi int64
		want   spanResult
	}{
		{span(-5, 12), 0, 9, good(0, 9)},
		{span(2, 3), 0, 9, good(2, 3)},
		{span(-5, 4), 0, 9, good(0, 4)},
		{span(4, 12), 0, 9, good(4, 9)},
		{span(-5, -2), 0, 9, good(0, 0)},
		{span(11, 12), 0, 9, good(9, 9)},
		{span(-5, 12), 3, 3, good(3, 3)},
		{span(least, most), least, most, good(least, most)},
		{span(0, 0), most, most, good(most, most)},
		{span(0, 0), least, least, good(least, least)},
		{span(1, 2), 2, 1, bad(api.ErrArg)},
		{span(1, 2), 0, most + 1, bad(api.ErrArg)},
		{span(1, 2), least - 1, 0, bad(api.ErrArg)},
		{span(1, 2), most + 1, most + 1, bad(api.ErrArg)},
		{span(1, 2), least - 1, least - 1, bad(api.ErrArg)},
		{span(1, 2), math.MinInt64, math.MaxInt64, bad(api.ErrArg)},
	} {
		if got := resultOf(quantity.Clip(x.s, x.lo, x.hi)); got != x.want {
			t.Errorf("Clip(%v, %d, %d): %v, want %v", x.s, x.lo, x.hi, got, x.want)
		}
	}
}
