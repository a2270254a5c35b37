package quantity_test

import (
	"math"
	"math/big"
	"math/rand"
	"slices"

	"coulomb/api"
	"coulomb/quantity"
)

const (
	most  = api.MaxQuantity
	least = -api.MaxQuantity
)

// spanResult is what a function that returns a span returns.
type spanResult struct {
	span  api.Span
	errno api.Errno
}

// numberResult is what a function that returns a number returns.
type numberResult struct {
	number int64
	errno  api.Errno
}

func span(lo, hi int64) api.Span { return api.Span{Lo: lo, Hi: hi} }

func curve(points ...int64) api.Curve {
	var c api.Curve
	for i := 0; i < len(points); i += 2 {
		c.X, c.Y = append(c.X, points[i]), append(c.Y, points[i+1])
	}
	return c
}

func box(ends ...int64) []api.Span {
	var b []api.Span
	for i := 0; i < len(ends); i += 2 {
		b = append(b, span(ends[i], ends[i+1]))
	}
	return b
}

// resultOf keeps both results of a call.
func resultOf(s api.Span, e api.Errno) spanResult { return spanResult{s, e} }

// numberOf keeps both results of a call.
func numberOf(n int64, e api.Errno) numberResult { return numberResult{n, e} }

// good is a span without an error.
func good(lo, hi int64) spanResult { return spanResult{span(lo, hi), api.OK} }

// bad is an error, with which the span has to be zero.
func bad(e api.Errno) spanResult { return spanResult{errno: e} }

// edgeNumbers are quantities around 0, around powers of 2 and at the limits.
func edgeNumbers() []int64 {
	return []int64{least, least + 1, -733007751851, least / 2, -1<<32 - 1, -1 << 20, -1000003, -7, -3, -2, -1, 0, 1, 2, 3, 10, 999983, 1<<20 + 1, 1 << 31, 1<<32 + 1, most/2 + 1, 733007751851, most - 1, most}
}

// edgeDivisors are divisors up to the limit.
func edgeDivisors() []int64 {
	return []int64{1, 2, 3, 7, 10, 65536, 1000003, 1<<32 - 1, most - 1, most}
}

// wildNumbers are no quantities.
func wildNumbers() []int64 {
	return []int64{most + 1, least - 1, 2 * most, 2 * least, math.MaxInt64, math.MinInt64, math.MinInt64 + 1}
}

// wildDivisors are no divisors.
func wildDivisors() []int64 { return append(wildNumbers(), 0, -1, -2, least) }

// wildSpans are not valid.
func wildSpans() []api.Span {
	l := box(1, 0, -1, -2, most, least, least-1, 0, 0, most+1, least-1, most+1)
	for _, x := range wildNumbers() {
		l = append(l, span(x, x), span(x, 1), span(1, x))
	}
	return append(l, span(math.MinInt64, math.MaxInt64), span(math.MaxInt64, math.MinInt64))
}

// smallSpans are all the valid spans from -n to n.
func smallSpans(n int64) []api.Span {
	var l []api.Span
	for lo := -n; lo <= n; lo++ {
		for hi := lo; hi <= n; hi++ {
			l = append(l, span(lo, hi))
		}
	}
	return l
}

// edgeSpans are all valid spans with two edge numbers.
func edgeSpans() []api.Span {
	var l []api.Span
	for i, lo := range edgeNumbers() {
		for _, hi := range edgeNumbers()[i:] {
			l = append(l, span(lo, hi))
		}
	}
	return l
}

// wildCurves are not valid, but for their lengths: each has the error ErrArg.
func wildCurves() []api.Curve {
	l := []api.Curve{
		{}, {X: []int64{}, Y: []int64{}},
		curve(0, 0),
		{X: []int64{0, 1}}, {Y: []int64{0, 1}},
		{X: []int64{0, 1}, Y: []int64{0}}, {X: []int64{0}, Y: []int64{0, 1}},
		{X: []int64{0, 1, 2}, Y: []int64{0, 1}}, {X: []int64{0, 1}, Y: []int64{0, 1, 2}},
		curve(0, 0, 0, 1), curve(1, 0, 0, 1), curve(0, 0, 2, 1, 2, 2), curve(0, 0, 2, 1, 1, 2),
		curve(0, 1, 1, 0), curve(0, 0, 1, 2, 2, 1), curve(0, 0, 1, -1, 2, 3),
	}
	for _, x := range wildNumbers() {
		if x > 0 {
			l = append(l, curve(0, 0, x, 1), curve(0, 0, 1, x), curve(0, x, 1, x), curve(x, 0, x+1, 1))
		} else {
			l = append(l, curve(x, 0, 0, 1), curve(0, x, 1, 0), curve(0, x, 1, x), curve(x, 0, x+1, 1))
		}
	}
	for _, n := range []int{1, 63} {
		long := longCurve(64)
		long.X[n] = long.X[n-1]
		l = append(l, long)
		long = longCurve(64)
		long.Y[n] = long.Y[n-1] - 1
		l = append(l, long)
	}
	return l
}

// longCurve has n points, and a slope that is a bit steeper from piece to piece.
func longCurve(n int) api.Curve {
	var c api.Curve
	for i := range int64(n) {
		c.X, c.Y = append(c.X, 10*i-300), append(c.Y, i*i-1000)
	}
	return c
}

// longCurves have too many points, and are not valid otherwise, too, some of them.
func longCurves() []api.Curve {
	short := []int64{0, 1}
	return []api.Curve{
		longCurve(65), longCurve(1000),
		{X: longCurve(65).X, Y: short}, {X: short, Y: longCurve(65).Y},
		{X: longCurve(65).X}, {Y: longCurve(65).Y},
		{X: make([]int64, 65), Y: make([]int64, 65)},
	}
}

// longBoxes have too many spans, and are not valid otherwise, too, some of them.
func longBoxes() [][]api.Span {
	wild := make([]api.Span, 9)
	wild[0] = span(1, 0)
	return [][]api.Span{make([]api.Span, 9), make([]api.Span, 1000), wild}
}

// wildBoxes have a span that is not valid: each has the error ErrArg.
func wildBoxes() [][]api.Span {
	var l [][]api.Span
	for _, s := range wildSpans() {
		l = append(l, []api.Span{s}, []api.Span{s, span(0, 1)}, []api.Span{span(0, 1), s})
	}
	full := make([]api.Span, 8)
	full[7] = span(3, 2)
	return append(l, full)
}

// chance draws the same numbers in each run.
func chance(seed int64) *rand.Rand { return rand.New(rand.NewSource(seed)) }

// drawNumber draws a quantity; its size is drawn first, so that small ones are as usual as great ones.
func drawNumber(r *rand.Rand) int64 {
	size := int64(1) << r.Intn(41)
	return r.Int63n(2*size+1) - size
}

// drawSpan draws a valid span.
func drawSpan(r *rand.Rand) api.Span {
	a, b := drawNumber(r), drawNumber(r)
	if r.Intn(3) == 0 {
		b = min(max(a+r.Int63n(9)-4, least), most)
	}
	return span(min(a, b), max(a, b))
}

// drawPart draws a span inside of a span.
func drawPart(r *rand.Rand, s api.Span) api.Span {
	a, b := s.Lo+r.Int63n(s.Hi-s.Lo+1), s.Lo+r.Int63n(s.Hi-s.Lo+1)
	return span(min(a, b), max(a, b))
}

// drawCurve draws a valid curve of 2 to 8 points; how far they are from 0 is drawn first.
func drawCurve(r *rand.Rand) api.Curve {
	width, height := int64(64)<<r.Intn(35), int64(1)<<r.Intn(41)
	xs := make([]int64, 2+r.Intn(7))
	for i := range xs {
		xs[i] = r.Int63n(2*width+1) - width
	}
	slices.Sort(xs)
	xs = slices.Compact(xs)
	if len(xs) < 2 {
		return drawCurve(r)
	}
	ys := make([]int64, len(xs))
	for i := range ys {
		ys[i] = r.Int63n(2*height+1) - height
	}
	slices.Sort(ys)
	return api.Curve{X: xs, Y: ys}
}

// smallCurves are all curves with X from 0 to 4 and Y from 0 to 5 that have three points.
func smallCurves() []api.Curve {
	var l []api.Curve
	for x := int64(1); x < 4; x++ {
		for z := x + 1; z <= 4; z++ {
			for a := int64(0); a <= 5; a++ {
				for b := a; b <= 5; b++ {
					for c := b; c <= 5; c++ {
						l = append(l, curve(0, a, x, b, z, c))
					}
				}
			}
		}
	}
	return l
}

// textOf returns the text of a curve; tests compare curves by it.
func textOf(c api.Curve) string {
	s, e := quantity.CurveText(c)
	if e != api.OK {
		return "no curve"
	}
	return s
}

// exact returns x num / den.
func exact(x, num, den int64) *big.Rat {
	product := new(big.Int).Mul(big.NewInt(x), big.NewInt(num))
	return new(big.Rat).SetFrac(product, big.NewInt(den))
}

// down returns a number rounded down.
func down(x *big.Rat) *big.Int { return new(big.Int).Div(x.Num(), x.Denom()) }

// up returns a number rounded up.
func up(x *big.Rat) *big.Int { return new(big.Int).Neg(down(new(big.Rat).Neg(x))) }

// number returns what a function has to return for a whole number.
func number(n *big.Int) numberResult {
	if n.CmpAbs(big.NewInt(most)) > 0 {
		return numberResult{0, api.ErrOver}
	}
	return numberResult{n.Int64(), api.OK}
}

// around returns what a function has to return for the span of some numbers.
func around(numbers ...*big.Rat) spanResult {
	lo, hi := numbers[0], numbers[0]
	for _, x := range numbers {
		if x.Cmp(lo) < 0 {
			lo = x
		}
		if x.Cmp(hi) > 0 {
			hi = x
		}
	}
	a, b := number(down(lo)), number(up(hi))
	if a.errno != api.OK || b.errno != api.OK {
		return bad(api.ErrOver)
	}
	return good(a.number, b.number)
}

// valueAt returns the value of a valid curve at a number.
func valueAt(c api.Curve, x *big.Rat) *big.Rat {
	last := len(c.X) - 1
	if x.Cmp(whole(c.X[0])) <= 0 {
		return whole(c.Y[0])
	}
	for i := range last {
		if x.Cmp(whole(c.X[i+1])) < 0 {
			part := new(big.Rat).Sub(x, whole(c.X[i]))
			part.Mul(part, slope(c, i))
			return part.Add(part, whole(c.Y[i]))
		}
	}
	return whole(c.Y[last])
}

// slope returns the slope of a piece.
func slope(c api.Curve, i int) *big.Rat {
	return exact(c.Y[i+1]-c.Y[i], 1, c.X[i+1]-c.X[i])
}

// whole returns a whole number as a rational one.
func whole(x int64) *big.Rat { return new(big.Rat).SetInt64(x) }
