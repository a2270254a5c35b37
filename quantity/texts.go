package quantity

import (
	"strconv"
	"strings"

	"coulomb/api"
)

// What stands between the numbers of a span, between those of a point, and between the points of a curve.
const (
	betweenEnds   = ".."
	betweenXY     = ":"
	betweenPoints = " "
)

// Text returns the text of a span. (P1.10)
func Text(s api.Span) (string, api.Errno) {
	if e := Check(s); e != api.OK {
		return "", e
	}
	return pairText(s.Lo, betweenEnds, s.Hi), api.OK
}

// Parse reads a span. (P1.10)
func Parse(s string) (api.Span, api.Errno) {
	lo, hi, ok := readPair(s, betweenEnds)
	span := api.Span{Lo: lo, Hi: hi}
	if !ok || Check(span) != api.OK {
		return api.Span{}, api.ErrForm
	}
	return span, api.OK
}

// CurveText returns the text of a curve. (P1.15)
func CurveText(c api.Curve) (string, api.Errno) {
	if e := CheckCurve(c); e != api.OK {
		return "", e
	}
	points := make([]string, len(c.X))
	for i, x := range c.X {
		points[i] = pairText(x, betweenXY, c.Y[i])
	}
	return strings.Join(points, betweenPoints), api.OK
}

// CurveParse reads a curve. (P1.15)
func CurveParse(s string) (api.Curve, api.Errno) {
	var c api.Curve
	for _, point := range strings.SplitN(s, betweenPoints, api.MaxCurve+1) { // one point too many shows that there are too many
		x, y, ok := readPair(point, betweenXY)
		if !ok {
			return api.Curve{}, api.ErrForm
		}
		c.X, c.Y = append(c.X, x), append(c.Y, y)
	}
	if CheckCurve(c) != api.OK {
		return api.Curve{}, api.ErrForm
	}
	return c, api.OK
}

// pairText returns the text of two numbers.
func pairText(a int64, between string, b int64) string {
	return numberText(a) + between + numberText(b)
}

// numberText returns the text of a number.
func numberText(x int64) string { return strconv.FormatInt(x, 10) }

// readPair reads the text of two numbers, and reports whether it is one.
func readPair(s, between string) (int64, int64, bool) {
	left, right, found := strings.Cut(s, between)
	a, okA := readNumber(left)
	b, okB := readNumber(right)
	if !found || !okA || !okB {
		return 0, 0, false
	}
	return a, b, true
}

// readNumber reads a number, and reports whether s is just what is written for it: ParseInt also takes other signs, and zeros in front.
func readNumber(s string) (int64, bool) {
	x, err := strconv.ParseInt(s, 10, 64)
	if err != nil || numberText(x) != s {
		return 0, false
	}
	return x, true
}
