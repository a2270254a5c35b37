package quantity_test

import (
	"math"
	"slices"
	"strings"
	"testing"

	"coulomb/api"
	"coulomb/quantity"
)

// spoil changes all numbers of lists, and what lies behind their ends if there is room.
func spoil[T any](wrong T, lists ...[]T) {
	for _, l := range lists {
		for i := range l[:cap(l)] {
			l[:cap(l)][i] = wrong
		}
	}
}

// R5: results share no memory with arguments, and no argument is changed.
func TestCurvesShareNothing(t *testing.T) {
	c, d := curve(0, 1, 10, 5), curve(0, 3, 10, 9)
	moved, _ := quantity.Move(c, 0, 0)
	blend, _ := quantity.Blend(c, d, 0, 1)
	other, _ := quantity.Blend(c, d, 1, 1)
	read, _ := quantity.CurveParse("0:1 10:5")
	quantity.At(c, 3)
	quantity.Image(c, span(1, 2))
	quantity.Back(c, span(1, 2))
	quantity.Steepest(c)
	if textOf(c) != "0:1 10:5" || textOf(d) != "0:3 10:9" {
		t.Errorf("arguments are changed: %v, %v", c, d)
	}
	spoil(7, c.X, c.Y, d.X, d.Y)
	for _, x := range []struct {
		name string
		c    api.Curve
		want string
	}{{"Move", moved, "0:1 10:5"}, {"Blend", blend, "0:1 10:5"}, {"Blend to the end", other, "0:3 10:9"}, {"CurveParse", read, "0:1 10:5"}} {
		if textOf(x.c) != x.want {
			t.Errorf("%s shares memory with an argument: %v", x.name, x.c)
		}
		xs := slices.Clone(x.c.X)
		spoil(9, x.c.Y)
		if !slices.Equal(x.c.X, xs) {
			t.Errorf("%s: X and Y share memory", x.name)
		}
	}
}

// R5: results share no memory with arguments, or with each other, and no argument is changed.
func TestBoxesShareNothing(t *testing.T) {
	a, b := box(1, 4, 7, 7), box(0, 3, 5, 9)
	meet, _ := quantity.BoxMeet(a, b)
	same, _ := quantity.BoxMeet(a, a)
	hull, _ := quantity.BoxHull(a, b)
	low, high, _ := quantity.Halve(a, 0)
	low2, high2, _ := quantity.Halve(a, 0)
	corners, _ := quantity.Corners(a)
	quantity.Widest(a)
	quantity.BoxInside(a, b)
	p := []int64{1, 7}
	quantity.BoxHas(a, p)
	if !slices.Equal(a, box(1, 4, 7, 7)) || !slices.Equal(b, box(0, 3, 5, 9)) || !slices.Equal(p, []int64{1, 7}) {
		t.Errorf("arguments are changed: %v, %v, %v", a, b, p)
	}
	spoil(span(-9, 9), a, b)
	spoil(span(-9, 9), low)
	spoil(span(-9, 9), high2)
	for _, x := range []struct {
		name      string
		got, want []api.Span
	}{
		{"BoxMeet", meet, box(1, 3, 7, 7)}, {"BoxMeet of one box", same, box(1, 4, 7, 7)}, {"BoxHull", hull, box(0, 4, 5, 9)},
		{"Halve, the higher half", high, box(3, 4, 7, 7)}, {"Halve, the lower half", low2, box(1, 2, 7, 7)},
	} {
		if !slices.Equal(x.got, x.want) {
			t.Errorf("%s shares memory: %v", x.name, x.got)
		}
	}
	for i, want := range [][]int64{{1, 7}, {1, 7}, {4, 7}, {4, 7}} {
		if !slices.Equal(corners[i], want) {
			t.Errorf("Corners share memory: %v", corners)
		}
		spoil(5, corners[i])
	}
}

// wildArguments are arguments of all kinds, possible ones and others.
type wildArguments struct {
	x, num, den int64
	i           int
	s, z        api.Span
	c, d        api.Curve
	b, o        []api.Span
	p           []int64
	text        string
}

// call is what one call has returned: its error, and whether everything else is zero.
type call struct {
	name  string
	errno api.Errno
	zero  bool
}

func ofSpan(name string) func(api.Span, api.Errno) call {
	return func(s api.Span, e api.Errno) call { return call{name, e, s == api.Span{}} }
}

func ofNumber(name string) func(int64, api.Errno) call {
	return func(n int64, e api.Errno) call { return call{name, e, n == 0} }
}

func ofIndex(name string) func(int, api.Errno) call {
	return func(n int, e api.Errno) call { return call{name, e, n == 0} }
}

func ofText(name string) func(string, api.Errno) call {
	return func(s string, e api.Errno) call { return call{name, e, s == ""} }
}

func ofCurve(name string) func(api.Curve, api.Errno) call {
	return func(c api.Curve, e api.Errno) call { return call{name, e, len(c.X) == 0 && len(c.Y) == 0} }
}

func ofBox(name string) func([]api.Span, api.Errno) call {
	return func(b []api.Span, e api.Errno) call { return call{name, e, len(b) == 0} }
}

// callAll calls all functions that return an error and something else; the others it calls just so.
func callAll(a wildArguments) []call {
	quantity.Check(a.s)
	quantity.CheckCurve(a.c)
	quantity.CheckBox(a.b)
	quantity.Has(a.s, a.x)
	quantity.Inside(a.s, a.z)
	quantity.BoxHas(a.b, a.p)
	quantity.BoxInside(a.b, a.o)
	low, high, e := quantity.Halve(a.b, a.i)
	corners, e2 := quantity.Corners(a.b)
	return []call{
		{"Halve", e, len(low) == 0 && len(high) == 0},
		{"Corners", e2, len(corners) == 0},
		ofNumber("Floor")(quantity.Floor(a.x, a.num, a.den)),
		ofNumber("Ceil")(quantity.Ceil(a.x, a.num, a.den)),
		ofNumber("Round")(quantity.Round(a.x, a.num, a.den)),
		ofSpan("Point")(quantity.Point(a.x)),
		ofSpan("Add")(quantity.Add(a.s, a.z)),
		ofSpan("Sub")(quantity.Sub(a.s, a.z)),
		ofSpan("Neg")(quantity.Neg(a.s)),
		ofSpan("Scale")(quantity.Scale(a.s, a.num, a.den)),
		ofSpan("Mul")(quantity.Mul(a.s, a.z, a.den)),
		ofSpan("Div")(quantity.Div(a.s, a.z, a.num)),
		ofSpan("Square")(quantity.Square(a.s, a.den)),
		ofSpan("Meet")(quantity.Meet(a.s, a.z)),
		ofSpan("Hull")(quantity.Hull(a.s, a.z)),
		ofNumber("Width")(quantity.Width(a.s)),
		ofNumber("Middle")(quantity.Middle(a.s)),
		ofSpan("Grow")(quantity.Grow(a.s, a.x)),
		ofSpan("Clip")(quantity.Clip(a.s, a.x, a.num)),
		ofText("Text")(quantity.Text(a.s)),
		ofSpan("Parse")(quantity.Parse(a.text)),
		ofSpan("At")(quantity.At(a.c, a.x)),
		ofSpan("Image")(quantity.Image(a.c, a.s)),
		ofSpan("Back")(quantity.Back(a.c, a.s)),
		ofIndex("Steepest")(quantity.Steepest(a.c)),
		ofCurve("Move")(quantity.Move(a.c, a.x, a.num)),
		ofCurve("Blend")(quantity.Blend(a.c, a.d, a.num, a.den)),
		ofText("CurveText")(quantity.CurveText(a.c)),
		ofCurve("CurveParse")(quantity.CurveParse(a.text)),
		ofBox("BoxMeet")(quantity.BoxMeet(a.b, a.o)),
		ofBox("BoxHull")(quantity.BoxHull(a.b, a.o)),
		ofIndex("Widest")(quantity.Widest(a.b)),
	}
}

// P1, R2, R10: no arguments make a function panic; with an error all other results are zero; a call again has the same error.
func TestAnyArguments(t *testing.T) {
	numbers := slices.Concat(edgeNumbers(), wildNumbers(), wildDivisors(), edgeDivisors())
	spans := slices.Concat(smallSpans(2), wildSpans(), []api.Span{span(least, most), span(0, most), span(most, most)})
	curves := append(slices.Concat(wildCurves(), longCurves()), longCurve(64), curve(0, 0, 5, 5), curve(least, least, most, most), curve(least, 0, most, 0))
	boxes := append(slices.Concat(wildBoxes(), longBoxes()), nil, []api.Span{}, box(0, 1), box(least, most, 0, 0), make([]api.Span, 8))
	points := [][]int64{nil, {}, {0}, {0, 0}, {math.MinInt64, math.MaxInt64}, make([]int64, 8), make([]int64, 9), make([]int64, 100)}
	texts := append(notNumbers(), "1..2", "2..1", "0:1 2:3", "..", ":", " ", strings.Repeat("0:0 ", 30000))
	indexes := []int{0, 1, 7, 8, -1, math.MinInt, math.MaxInt}
	r := chance(10)
	for range 20000 {
		a := wildArguments{
			x: pick(r.Intn, numbers), num: pick(r.Intn, numbers), den: pick(r.Intn, numbers), i: pick(r.Intn, indexes),
			s: pick(r.Intn, spans), z: pick(r.Intn, spans), c: pick(r.Intn, curves), d: pick(r.Intn, curves),
			b: pick(r.Intn, boxes), o: pick(r.Intn, boxes), p: pick(r.Intn, points), text: pick(r.Intn, texts),
		}
		first, again := callAll(a), callAll(a)
		for i, c := range first {
			if c.errno != api.OK && !c.zero {
				t.Errorf("%s returns more than the error %d", c.name, c.errno)
			}
			if c != again[i] {
				t.Errorf("%s does not return the same again: %v, %v", c.name, c, again[i])
			}
		}
	}
}

// pick draws one of some values.
func pick[T any](below func(int) int, l []T) T { return l[below(len(l))] }
