package quantity_test

import (
	"math"
	"slices"
	"testing"

	"coulomb/api"
	"coulomb/quantity"
)

// boxCalls are the functions of boxes, with the box at each place: each returns its error, and whether all other results are zero.
func boxCalls(i int, other []api.Span) map[string]func(b []api.Span) (api.Errno, bool) {
	return map[string]func(b []api.Span) (api.Errno, bool){
		"CheckBox":        func(b []api.Span) (api.Errno, bool) { return quantity.CheckBox(b), true },
		"BoxMeet of it":   func(b []api.Span) (api.Errno, bool) { return isZeroBox(quantity.BoxMeet(b, other)) },
		"BoxMeet with it": func(b []api.Span) (api.Errno, bool) { return isZeroBox(quantity.BoxMeet(other, b)) },
		"BoxHull of it":   func(b []api.Span) (api.Errno, bool) { return isZeroBox(quantity.BoxHull(b, other)) },
		"BoxHull with it": func(b []api.Span) (api.Errno, bool) { return isZeroBox(quantity.BoxHull(other, b)) },
		"Widest": func(b []api.Span) (api.Errno, bool) {
			n, e := quantity.Widest(b)
			return e, n == 0
		},
		"Halve": func(b []api.Span) (api.Errno, bool) {
			low, high, e := quantity.Halve(b, i)
			return e, low == nil && high == nil
		},
		"Corners": func(b []api.Span) (api.Errno, bool) {
			l, e := quantity.Corners(b)
			return e, l == nil
		},
	}
}

func isZeroBox(b []api.Span, e api.Errno) (api.Errno, bool) { return e, b == nil }

// P1.16 to P1.18: the errors of boxes, which come before all others.
func TestBoxesThatAreNotValid(t *testing.T) {
	check := func(b, other []api.Span, want api.Errno) {
		for _, i := range []int{0, -1, 9, math.MinInt, math.MaxInt} {
			for name, call := range boxCalls(i, other) {
				if e, zero := call(b); e != want || !zero {
					t.Errorf("%s with %v and %v: %d", name, b, other, e)
				}
			}
		}
	}
	for _, b := range wildBoxes() {
		check(b, nil, api.ErrArg)
		check(b, box(0, 1), api.ErrArg)
		check(b, box(7, 9, 7, 9), api.ErrArg)
	}
	for _, b := range longBoxes() {
		check(b, nil, api.ErrMany)
		check(b, box(0, 1), api.ErrMany)
		check(b, box(1, 0), api.ErrMany)
	}
}

// P1.16
func TestCheckBox(t *testing.T) {
	for _, b := range [][]api.Span{nil, {}, box(0, 0), box(least, most), make([]api.Span, 7), make([]api.Span, 8)} {
		if e := quantity.CheckBox(b); e != api.OK {
			t.Errorf("CheckBox of %v: %d", b, e)
		}
	}
}

// P1.16
func TestBoxHas(t *testing.T) {
	b := box(1, 4, 7, 7, -3, -2)
	for _, x := range []struct {
		b    []api.Span
		p    []int64
		want bool
	}{
		{b, []int64{1, 7, -3}, true}, {b, []int64{4, 7, -2}, true}, {b, []int64{2, 7, -2}, true},
		{b, []int64{0, 7, -3}, false}, {b, []int64{5, 7, -3}, false}, {b, []int64{1, 6, -3}, false}, {b, []int64{1, 8, -3}, false}, {b, []int64{1, 7, -4}, false}, {b, []int64{1, 7, -1}, false},
		{b, []int64{1, 7}, false}, {b, []int64{1, 7, -3, 0}, false}, {b, nil, false}, {b, []int64{7, 1, -3}, false},
		{nil, nil, true}, {nil, []int64{}, true}, {[]api.Span{}, nil, true}, {nil, []int64{0}, false}, {[]api.Span{}, []int64{0}, false},
		{box(least, most), []int64{most}, true}, {box(least, most), []int64{least}, true}, {box(least, most), []int64{most + 1}, false}, {box(least, most), []int64{math.MinInt64}, false}, {box(least, most), []int64{math.MaxInt64}, false},
		{box(1, 4, 5, 4), []int64{1, 5}, false}, {box(math.MinInt64, math.MaxInt64), []int64{0}, false}, {box(0, most+1), []int64{0}, false},
		{make([]api.Span, 8), make([]int64, 8), true}, {make([]api.Span, 9), make([]int64, 9), false}, {make([]api.Span, 8), make([]int64, 7), false},
	} {
		if got := quantity.BoxHas(x.b, x.p); got != x.want {
			t.Errorf("BoxHas(%v, %v): %t", x.b, x.p, got)
		}
	}
}

// P1.16
func TestBoxInside(t *testing.T) {
	b := box(1, 4, 7, 7)
	for _, x := range []struct {
		a, b []api.Span
		want bool
	}{
		{b, b, true}, {box(2, 3, 7, 7), b, true}, {b, box(2, 3, 7, 7), false}, {b, box(0, 5, 6, 8), true}, {box(0, 5, 6, 8), b, false},
		{box(1, 4, 7, 8), b, false}, {box(1, 4, 6, 7), b, false}, {box(1, 5, 7, 7), b, false}, {box(0, 4, 7, 7), b, false},
		{box(1, 4), b, false}, {b, box(1, 4), false}, {nil, b, false}, {b, nil, false}, {nil, nil, true}, {nil, []api.Span{}, true},
		{box(1, 4, 7, 6), b, false}, {b, box(1, 4, 7, 6), false}, {box(1, 4, 7, 6), box(1, 4, 7, 6), false}, {box(0, 1), box(0, most+1), false}, {box(0, 0), box(least-1, 0), false},
		{make([]api.Span, 8), make([]api.Span, 8), true}, {make([]api.Span, 9), make([]api.Span, 9), false},
	} {
		if got := quantity.BoxInside(x.a, x.b); got != x.want {
			t.Errorf("BoxInside(%v, %v): %t", x.a, x.b, got)
		}
	}
	for _, a := range smallSpans(2) {
		for _, b := range smallSpans(2) {
			want := b.Lo <= a.Lo && a.Hi <= b.Hi
			if got := quantity.BoxInside([]api.Span{span(0, 0), a}, []api.Span{span(0, 0), b}); got != want {
				t.Errorf("BoxInside of %v and %v: %t", a, b, got)
			}
		}
	}
}

// P1.17
func TestBoxMeetAndHull(t *testing.T) {
	full := make([]api.Span, 8)
	for _, x := range []struct {
		a, b      []api.Span
		meet      []api.Span
		meetErrno api.Errno
		hull      []api.Span
		hullErrno api.Errno
	}{
		{box(1, 3, 4, 9), box(3, 5, 0, 5), box(3, 3, 4, 5), api.OK, box(1, 5, 0, 9), api.OK},
		{box(1, 2, 4, 9), box(3, 5, 0, 5), nil, api.ErrNone, box(1, 5, 0, 9), api.OK},
		{box(1, 3, 4, 9), box(3, 5, 0, 3), nil, api.ErrNone, box(1, 5, 0, 9), api.OK},
		{box(least, most), box(7, 8), box(7, 8), api.OK, box(least, most), api.OK},
		{nil, nil, nil, api.OK, nil, api.OK},
		{[]api.Span{}, nil, nil, api.OK, nil, api.OK},
		{full, full, full, api.OK, full, api.OK},
		{box(1, 2), box(1, 2, 3, 4), nil, api.ErrEqual, nil, api.ErrEqual},
		{box(1, 2, 3, 4), box(5, 6), nil, api.ErrEqual, nil, api.ErrEqual},
		{nil, box(5, 6), nil, api.ErrEqual, nil, api.ErrEqual},
		{box(5, 6), nil, nil, api.ErrEqual, nil, api.ErrEqual},
	} {
		got, e := quantity.BoxMeet(x.a, x.b)
		if e != x.meetErrno || !slices.Equal(got, x.meet) {
			t.Errorf("BoxMeet(%v, %v): %v, %d", x.a, x.b, got, e)
		}
		got, e = quantity.BoxHull(x.a, x.b)
		if e != x.hullErrno || !slices.Equal(got, x.hull) {
			t.Errorf("BoxHull(%v, %v): %v, %d", x.a, x.b, got, e)
		}
	}
}

// P1.18
func TestWidest(t *testing.T) {
	for _, x := range []struct {
		b     []api.Span
		want  int
		errno api.Errno
	}{
		{box(1, 4, 7, 7), 0, api.OK}, {box(7, 7, 1, 4), 1, api.OK}, {box(1, 4, 2, 5, 3, 6), 0, api.OK}, {box(1, 2, -3, 5, 0, 8), 1, api.OK}, {box(0, 1, 0, 2, 0, 1), 1, api.OK},
		{box(5, 5), 0, api.OK}, {box(5, 5, 6, 6), 0, api.OK}, {box(0, most, least, 1, 0, most), 1, api.OK}, {box(least, most-1, least, most), 1, api.OK}, {box(least, most, 0, 0, least, most), 0, api.OK},
		{box(0, 0, 0, 0, 0, 0, 0, 0, 0, 0, 0, 0, 0, 0, 0, 1), 7, api.OK},
		{nil, 0, api.ErrNone}, {[]api.Span{}, 0, api.ErrNone},
	} {
		if got, e := quantity.Widest(x.b); got != x.want || e != x.errno {
			t.Errorf("Widest of %v: %d, %d", x.b, got, e)
		}
	}
}

// P1.18
func TestHalve(t *testing.T) {
	for _, x := range []struct {
		b         []api.Span
		i         int
		low, high []api.Span
		errno     api.Errno
	}{
		{box(1, 4, 7, 7), 0, box(1, 2, 7, 7), box(3, 4, 7, 7), api.OK},
		{box(7, 7, 1, 5), 1, box(7, 7, 1, 3), box(7, 7, 4, 5), api.OK},
		{box(-4, 1), 0, box(-4, -2), box(-1, 1), api.OK},
		{box(-4, -3), 0, box(-4, -4), box(-3, -3), api.OK},
		{box(-1, 0), 0, box(-1, -1), box(0, 0), api.OK},
		{box(least, most), 0, box(least, 0), box(1, most), api.OK},
		{box(most-1, most), 0, box(most-1, most-1), box(most, most), api.OK},
		{box(1, 4, 7, 7), 1, nil, nil, api.ErrNone},
		{box(1, 4, 7, 7), 2, nil, nil, api.ErrRange},
		{box(1, 4, 7, 7), -1, nil, nil, api.ErrRange},
		{box(1, 4), math.MaxInt, nil, nil, api.ErrRange},
		{box(1, 4), math.MinInt, nil, nil, api.ErrRange},
		{nil, 0, nil, nil, api.ErrRange},
		{[]api.Span{}, 0, nil, nil, api.ErrRange},
		{make([]api.Span, 8), 7, nil, nil, api.ErrNone},
		{make([]api.Span, 8), 8, nil, nil, api.ErrRange},
	} {
		low, high, e := quantity.Halve(x.b, x.i)
		if e != x.errno || !slices.Equal(low, x.low) || !slices.Equal(high, x.high) {
			t.Errorf("Halve(%v, %d): %v, %v, %d", x.b, x.i, low, high, e)
		}
	}
}

// P1.18
func TestCorners(t *testing.T) {
	for _, x := range []struct {
		b    []api.Span
		want [][]int64
	}{
		{box(1, 2, 5, 6), [][]int64{{1, 5}, {1, 6}, {2, 5}, {2, 6}}},
		{box(least, most), [][]int64{{least}, {most}}},
		{box(7, 7), [][]int64{{7}, {7}}},
		{box(1, 2, 3, 3, 4, 5), [][]int64{{1, 3, 4}, {1, 3, 5}, {1, 3, 4}, {1, 3, 5}, {2, 3, 4}, {2, 3, 5}, {2, 3, 4}, {2, 3, 5}}},
		{nil, [][]int64{{}}},
		{[]api.Span{}, [][]int64{{}}},
	} {
		got, e := quantity.Corners(x.b)
		if e != api.OK || !slices.EqualFunc(got, x.want, slices.Equal[[]int64]) {
			t.Errorf("Corners of %v: %v, %d", x.b, got, e)
		}
	}
	full := box(0, 1, 0, 2, 0, 4, 0, 8, 0, 16, 0, 32, 0, 64, 0, 128)
	got, e := quantity.Corners(full)
	if e != api.OK || len(got) != 256 {
		t.Fatalf("Corners of 8 spans: %d, %d", len(got), e)
	}
	for n, p := range got {
		for i := range full {
			want := int64(0)
			if n&(1<<(7-i)) != 0 {
				want = full[i].Hi
			}
			if len(p) != 8 || p[i] != want {
				t.Fatalf("corner %d of 8 spans: %v", n, p)
			}
		}
	}
}
