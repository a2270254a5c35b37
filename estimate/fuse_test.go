package estimate_test

import (
	"math"
	"math/rand"
	"slices"
	"testing"

	"coulomb/api"
	"coulomb/estimate"
	"coulomb/quantity"
)

// P3.2: the examples of the chapter, and other ones.
func TestFuse(t *testing.T) {
	three := box(1, 5, 4, 9, 20, 30)
	ends := func(lo, hi int64) result[api.Span] { return good(span(lo, hi)) }
	none := bad[api.Span](api.ErrNone)
	for _, x := range []struct {
		l    []api.Span
		f    int
		want result[api.Span]
	}{
		{three, 1, ends(4, 5)}, {three, 0, none}, {three, 2, ends(1, 30)}, {three, 3, bad[api.Span](api.ErrRange)},
		{box(1, 5), 0, ends(1, 5)}, {box(-most, most), 0, ends(-most, most)}, {points(most, most), 0, ends(most, most)}, {points(-most, -most, most), 1, ends(-most, -most)}, {points(-most, -most, most), 2, ends(-most, most)},
		{box(1, 5, 5, 9), 0, ends(5, 5)}, {box(1, 4, 5, 9), 0, none}, {box(1, 4, 5, 9), 1, ends(1, 9)}, {box(1, 9, 3, 4), 0, ends(3, 4)}, {box(3, 4, 1, 9), 0, ends(3, 4)},
		{box(0, 3, 2, 5, 10, 13, 12, 15), 2, ends(2, 13)}, // those from 4 to 11 are not supported
		{box(0, 3, 2, 5, 10, 13, 12, 15), 1, none}, {box(0, 3, 2, 5, 10, 13, 12, 15), 3, ends(0, 15)},
		{make([]api.Span, 16), 0, ends(0, 0)}, {make([]api.Span, 16), 15, ends(0, 0)}, {append(make([]api.Span, 15), span(7, 8)), 1, ends(0, 0)}, {append(make([]api.Span, 15), span(7, 8)), 15, ends(0, 8)}, {append(make([]api.Span, 15), span(7, 8)), 0, none},
	} {
		if got := of(estimate.Fuse(x.l, x.f)); got != x.want {
			t.Errorf("Fuse of %v, %d: %v, not %v", x.l, x.f, got, x.want)
		}
	}
}

// P3.2: the spans that do not contain a number.
func TestLiars(t *testing.T) {
	three := box(1, 5, 4, 9, 20, 30)
	for _, x := range []struct {
		l    []api.Span
		x    int64
		want []int
	}{
		{three, 5, []int{2}}, {three, 20, []int{0, 1}}, {three, 1, []int{1, 2}}, {three, 0, []int{0, 1, 2}}, {three, 9, []int{0, 2}}, {three, 10, []int{0, 1, 2}}, {three, most, []int{0, 1, 2}}, {three, -most, []int{0, 1, 2}},
		{box(-most, most), most, nil}, {box(-most, most), -most, nil}, {box(1, 5, 5, 9), 5, nil}, {points(7, 8, 7), 7, []int{1}},
	} {
		if got, e := estimate.Liars(x.l, x.x); e != api.OK || !slices.Equal(got, x.want) {
			t.Errorf("Liars of %v, %d: %v, %d", x.l, x.x, got, e)
		}
	}
}

// drawSpans draws spans that are to be fused, from -10 to 10.
func drawSpans(r *rand.Rand) []api.Span {
	var l []api.Span
	for range 1 + r.Intn(16) {
		a, b := r.Int63n(21)-10, r.Int63n(21)-10
		l = append(l, span(min(a, b), max(a, b)))
	}
	return l
}

// P3.2, P3.12: small spans: each whole number is looked at; more liars make nothing smaller, and none make the meeting of all.
func TestFuseOfAll(t *testing.T) {
	r := chance(6)
	for range 2000 {
		l := drawSpans(r)
		before := bad[api.Span](api.ErrNone)
		for f := range len(l) {
			want := bad[api.Span](api.ErrNone)
			for x := int64(-11); x <= 11; x++ {
				wrong, e := estimate.Liars(l, x)
				if e != api.OK || !slices.Equal(wrong, liarsOf(l, x)) {
					t.Fatalf("Liars of %v, %d: %v, %d", l, x, wrong, e)
				}
				if len(wrong) > f {
					continue
				}
				if want.errno != api.OK {
					want = good(span(x, x))
				}
				want.value.Hi = x
			}
			got := of(estimate.Fuse(l, f))
			if got != want {
				t.Errorf("Fuse of %v, %d: %v, not %v", l, f, got, want)
			}
			if before.errno == api.OK && !quantity.Inside(before.value, got.value) {
				t.Errorf("Fuse of %v, %d: %v, and before %v", l, f, got, before)
			}
			before = got
		}
		meeting := good(l[0])
		for _, s := range l[1:] {
			if meeting.errno == api.OK {
				meeting = of(quantity.Meet(meeting.value, s))
			}
		}
		if got := of(estimate.Fuse(l, 0)); got != meeting {
			t.Errorf("Fuse of %v without liars: %v, not %v", l, got, meeting)
		}
	}
}

// liarsOf are the indexes of the spans that do not contain x.
func liarsOf(l []api.Span, x int64) []int {
	var wrong []int
	for i, s := range l {
		if x < s.Lo || x > s.Hi {
			wrong = append(wrong, i)
		}
	}
	return wrong
}

// P3.12: great spans: a number that at most f of them do not contain is in the fused span, whose ends are such numbers, unlike those next to it.
func TestFusedThatIsDrawn(t *testing.T) {
	r := chance(7)
	for range 5000 {
		var l []api.Span
		x := drawFrom(r, -most, most)
		for range 1 + r.Intn(16) {
			s := drawSpan(r, -most, most)
			if r.Intn(2) == 0 {
				s = span(drawFrom(r, -most, x), drawFrom(r, x, most))
			}
			l = append(l, s)
		}
		f := min(len(liarsOf(l, x)), len(l)-1)
		got, e := estimate.Fuse(l, f)
		if e != api.OK || len(liarsOf(l, got.Lo)) > f || len(liarsOf(l, got.Hi)) > f || len(liarsOf(l, got.Lo-1)) <= f || len(liarsOf(l, got.Hi+1)) <= f {
			t.Errorf("Fuse of %v, %d: %v, %d", l, f, got, e)
		}
		if len(liarsOf(l, x)) <= f && !quantity.Has(got, x) {
			t.Errorf("Fuse of %v, %d: %v does not contain %d", l, f, got, x)
		}
	}
}

// P3.2, R1, R3: the errors of Fuse and Liars, in their order.
func TestFuseErrors(t *testing.T) {
	check := func(l []api.Span, f int, x int64, want api.Errno) {
		t.Helper()
		if got := of(estimate.Fuse(l, f)); got != bad[api.Span](want) {
			t.Errorf("Fuse of %v, %d: %v", l, f, got)
		}
		if got, e := estimate.Liars(l, x); e != want || len(got) != 0 {
			t.Errorf("Liars of %v, %d: %v, %d", l, x, got, e)
		}
	}
	for _, n := range []int{17, 18, 1000} {
		check(make([]api.Span, n), 0, 0, api.ErrMany)
		check(slices.Repeat(box(1, 0), n), -1, most+1, api.ErrMany)
	}
	check(nil, 0, 0, api.ErrArg)
	check([]api.Span{}, 0, 0, api.ErrArg)
	check(nil, -1, most+1, api.ErrArg)
	for _, s := range wildSpans() {
		for i := range 3 {
			l := box(0, 1, 0, 2, 0, 3)
			l[i] = s
			check(l, 1, 0, api.ErrArg)
			check(l, 3, most+1, api.ErrArg)
		}
		check(append(make([]api.Span, 15), s), 0, 0, api.ErrArg)
	}
	for _, f := range []int{-1, 3, 4, 16, math.MinInt, math.MaxInt} {
		if got := of(estimate.Fuse(box(1, 2, 5, 6, 8, 9), f)); got != bad[api.Span](api.ErrRange) {
			t.Errorf("Fuse with %d liars: %v", f, got)
		}
	}
	for _, x := range wildNumbers() {
		if got, e := estimate.Liars(box(-most, most), x); e != api.ErrArg || len(got) != 0 {
			t.Errorf("Liars for %d: %v, %d", x, got, e)
		}
	}
}
