package quantity

import (
	"slices"

	"coulomb/api"
)

// CheckBox reports whether spans are a box. (P1.16)
func CheckBox(b []api.Span) api.Errno { return checkBoxes(b) }

// BoxHas reports whether b is a box that contains p. (P1.16)
func BoxHas(b []api.Span, p []int64) bool {
	if CheckBox(b) != api.OK || len(b) != len(p) {
		return false
	}
	return forAll(len(b), func(i int) bool { return contains(b[i], p[i]) })
}

// BoxInside reports whether both are boxes with as many spans, and each span of a is inside that of b. (P1.16)
func BoxInside(a, b []api.Span) bool {
	if checkBoxes(a, b) != api.OK || len(a) != len(b) {
		return false
	}
	return forAll(len(a), func(i int) bool { return Inside(a[i], b[i]) })
}

// BoxMeet returns what is in both boxes. (P1.17)
func BoxMeet(a, b []api.Span) ([]api.Span, api.Errno) { return spanBySpan(a, b, Meet) }

// BoxHull returns the least box around both. (P1.17)
func BoxHull(a, b []api.Span) ([]api.Span, api.Errno) { return spanBySpan(a, b, Hull) }

// Widest returns the index of the widest span of a box. (P1.18)
func Widest(b []api.Span) (int, api.Errno) {
	if e := CheckBox(b); e != api.OK {
		return 0, e
	}
	if len(b) == 0 {
		return 0, api.ErrNone
	}
	widest := 0
	for i, s := range b {
		if s.Hi-s.Lo > b[widest].Hi-b[widest].Lo { // Width has an error for the widest ones
			widest = i
		}
	}
	return widest, api.OK
}

// Halve cuts a box in two at the middle of the span i. (P1.18)
func Halve(b []api.Span, i int) ([]api.Span, []api.Span, api.Errno) {
	if e := CheckBox(b); e != api.OK {
		return nil, nil, e
	}
	if i < 0 || i >= len(b) {
		return nil, nil, api.ErrRange
	}
	if b[i].Lo == b[i].Hi {
		return nil, nil, api.ErrNone
	}
	low, high := slices.Clone(b), slices.Clone(b)
	low[i].Hi = middle(b[i])
	high[i].Lo = low[i].Hi + 1
	return low, high, api.OK
}

// Corners returns the corners of a box, in the order of counting. (P1.18)
func Corners(b []api.Span) ([][]int64, api.Errno) {
	if e := CheckBox(b); e != api.OK {
		return nil, e
	}
	corners := make([][]int64, 1<<len(b))
	for n := range corners {
		corners[n] = corner(b, n)
	}
	return corners, api.OK
}

// corner returns the corner n of a box: the bits of n say which ends, the bit of the last span is the lowest one.
func corner(b []api.Span, n int) []int64 {
	ends := make([]int64, len(b))
	for i := range len(b) {
		ends[i] = b[i].Lo
		if n>>(len(b)-1-i)&1 == 1 {
			ends[i] = b[i].Hi
		}
	}
	return ends
}

// checkBoxes returns ErrMany if one of the boxes has too many spans, and then ErrArg if a span is not valid.
func checkBoxes(boxes ...[]api.Span) api.Errno {
	for _, b := range boxes {
		if len(b) > api.MaxBox {
			return api.ErrMany
		}
	}
	for _, b := range boxes {
		if e := checkSpans(b...); e != api.OK {
			return e
		}
	}
	return api.OK
}

// forAll reports whether all numbers from 0 to n - 1 pass a test.
func forAll(n int, test func(i int) bool) bool {
	for i := range n {
		if !test(i) {
			return false
		}
	}
	return true
}

// spanBySpan returns the box of what join returns for the spans of two boxes with the same index.
func spanBySpan(a, b []api.Span, join func(x, y api.Span) (api.Span, api.Errno)) ([]api.Span, api.Errno) {
	if e := checkBoxes(a, b); e != api.OK {
		return nil, e
	}
	if len(a) != len(b) {
		return nil, api.ErrEqual
	}
	joined := make([]api.Span, len(a))
	for i := range len(a) {
		s, e := join(a[i], b[i])
		if e != api.OK {
			return nil, e
		}
		joined[i] = s
	}
	return joined, api.OK
}
