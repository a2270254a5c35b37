package quantity_test

import (
	"slices"
	"strings"
	"testing"

	"coulomb/api"
	"coulomb/quantity"
)

// P1.10
func TestText(t *testing.T) {
	for _, x := range []struct {
		s    api.Span
		want string
	}{
		{span(-5, 12), "-5..12"},
		{span(0, 0), "0..0"},
		{span(-1, 0), "-1..0"},
		{span(-20, -10), "-20..-10"},
		{span(7, 7), "7..7"},
		{span(least, most), "-1099511627776..1099511627776"},
	} {
		if got, e := quantity.Text(x.s); got != x.want || e != api.OK {
			t.Errorf("Text of %v: %q, %d", x.s, got, e)
		}
		if got := resultOf(quantity.Parse(x.want)); got != (spanResult{x.s, api.OK}) {
			t.Errorf("Parse of %q: %v", x.want, got)
		}
	}
	for _, s := range wildSpans() {
		if got, e := quantity.Text(s); got != "" || e != api.ErrArg {
			t.Errorf("Text of %v: %q, %d", s, got, e)
		}
	}
	for _, s := range append(smallSpans(12), edgeSpans()...) {
		text, e := quantity.Text(s)
		if got := resultOf(quantity.Parse(text)); e != api.OK || got != (spanResult{s, api.OK}) {
			t.Errorf("Parse of the text of %v: %v", s, got)
		}
	}
}

// notNumbers are no texts of numbers.
func notNumbers() []string {
	return []string{
		"", "-", "+", "+1", "+0", "-0", "00", "01", "-01", "05", "-05", "--1", "1-", "1.0", "1.", ".1", "1e1", "0x1", "0b1", "0o7", "1_0", "1,0",
		" 1", "1 ", "\t1", "1\n", "a", "1a", "a1", "\x00", "1\x00", "\u0661", "\uff11", "\u22121", "1\xff", "nil", "NaN",
		"1099511627777", "-1099511627777", "01099511627776", "9223372036854775807", "-9223372036854775808", "9223372036854775808", "18446744073709551617", "340282366920938463463374607431768211457",
		strings.Repeat("0", 100), strings.Repeat("9", 70000), "1" + strings.Repeat(" ", 70000),
	}
}

// P1.10: texts that are none of a span.
func TestParseForm(t *testing.T) {
	texts := []string{
		"5..-12", "-0..1", "05..6", "2..1", "-1..-2", "1099511627776..-1099511627776",
		"..", "...", "....", "1", "1..", "..1", "1.2", "1...2", "1....2", "1..2..3", "1..2..", "..1..2", "1.. 2", "1 ..2", "1 .. 2", "1. .2",
		"1:2", "1-2", "1,2", "{1 2}", "1..2 ", " 1..2", "1..2\n", "\n1..2", "1..2\r\n", "1..2 3..4", "[1..2]", "\u2025", "1\u20252", "1..2\x00", "\ufeff1..2",
	}
	for _, n := range notNumbers() {
		texts = append(texts, n, n+"..1", "1.."+n, n+".."+n)
	}
	for _, s := range texts {
		if got := resultOf(quantity.Parse(s)); got != bad(api.ErrForm) {
			t.Errorf("Parse of %.40q: %v", s, got)
		}
	}
}

// P1.15
func TestCurveText(t *testing.T) {
	for _, x := range []struct {
		c    api.Curve
		want string
	}{
		{curve(0, 2, 10, 7), "0:2 10:7"},
		{curve(0, 0, 10, 5, 20, 25), "0:0 10:5 20:25"},
		{curve(-3, -3, -1, -2, 0, -2), "-3:-3 -1:-2 0:-2"},
		{curve(least, least, most, most), "-1099511627776:-1099511627776 1099511627776:1099511627776"},
	} {
		if got, e := quantity.CurveText(x.c); got != x.want || e != api.OK {
			t.Errorf("CurveText of %v: %q, %d", x.c, got, e)
		}
		checkCurveParse(t, x.want, x.c)
	}
	for _, c := range wildCurves() {
		if got, e := quantity.CurveText(c); got != "" || e != api.ErrArg {
			t.Errorf("CurveText of %v: %q, %d", c, got, e)
		}
	}
	for _, c := range longCurves() {
		if got, e := quantity.CurveText(c); got != "" || e != api.ErrMany {
			t.Errorf("CurveText of %d and %d numbers: %q, %d", len(c.X), len(c.Y), got, e)
		}
	}
}

// checkCurveParse checks that a text is read as a curve.
func checkCurveParse(t *testing.T, s string, want api.Curve) {
	t.Helper()
	c, e := quantity.CurveParse(s)
	if e != api.OK || !slices.Equal(c.X, want.X) || !slices.Equal(c.Y, want.Y) {
		t.Errorf("CurveParse of %.60q: %v, %d", s, c, e)
	}
}

// P1.15: what is written is read, up to 64 points.
func TestCurveTextAndBack(t *testing.T) {
	curves := append(smallCurves(), longCurve(2), longCurve(63), longCurve(64))
	r := chance(3)
	for range 1000 {
		curves = append(curves, drawCurve(r))
	}
	for _, c := range curves {
		s, e := quantity.CurveText(c)
		if e != api.OK {
			t.Errorf("CurveText of %v: %d", c, e)
		}
		checkCurveParse(t, s, c)
	}
}

// P1.15: texts that are none of a curve.
func TestCurveParseForm(t *testing.T) {
	texts := []string{
		"", " ", "0:2", "0:2 10:1", "0:2 0:3", "10:2 0:3", "0:2 10:7 5:8", "0:2 10:7 20:6",
		"0:2  10:7", " 0:2 10:7", "0:2 10:7 ", "0:2\t10:7", "0:2\n10:7", "0:2,10:7", "0:2 10:7\n",
		"0 2 10 7", "0:2 10", "0:2 10:", "0:2 :7", "0:2 10:7:8", "0:2:3 10:7", "0::2 10:7", "0: 2 10:7", "0 :2 10:7", "0..2 10..7", "0:2 10:7 x", "0:210:7", ":", ": :", "0:2 10;7", "0:2 10\uff1a7",
		"0:2\u00a010:7",
	}
	for _, n := range notNumbers() {
		texts = append(texts, n, n+":2 10:7", "0:"+n+" 10:7", "0:2 "+n+":7", "0:2 10:"+n)
	}
	points := make([]string, 65)
	for i := range points {
		points[i] = strings.TrimSuffix(textOf(curve(int64(i), 5, 1000, 5)), " 1000:5")
	}
	texts = append(texts, strings.Join(points, " "), strings.Repeat("1:1 ", 100000), strings.Repeat(" ", 70000))
	for _, s := range texts {
		c, e := quantity.CurveParse(s)
		if e != api.ErrForm || c.X != nil || c.Y != nil {
			t.Errorf("CurveParse of %.60q: %v, %d", s, c, e)
		}
	}
	if c, e := quantity.CurveParse(strings.Join(points[:64], " ")); e != api.OK || len(c.X) != 64 {
		t.Errorf("CurveParse of 64 points: %v, %d", c, e)
	}
}
