package estimate_test

import (
	"math"
	"slices"
	"testing"

	"coulomb/api"
	"coulomb/cell"
	"coulomb/estimate"
	"coulomb/quantity"
)

// P3.10: states inside and outside of a box.
func TestApartAndPull(t *testing.T) {
	b := box(1, 2, -5, 5, 300000, 300100, 7, 7, 0, most)
	const least, greatest = math.MinInt64, math.MaxInt64
	for _, x := range []struct {
		s      api.State
		apart  []int
		pulled api.State
	}{
		{api.State{Charge: 1, Relax: -5, Temp: 300000, Through: 7}, nil, api.State{Charge: 1, Relax: -5, Temp: 300000, Through: 7}},
		{api.State{Charge: 2, Relax: 5, Temp: 300100, Through: 7, Age: most}, nil, api.State{Charge: 2, Relax: 5, Temp: 300100, Through: 7, Age: most}},
		{api.State{Charge: 3, Relax: 0, Temp: 300050, Through: 7, Age: 9}, []int{0}, api.State{Charge: 2, Relax: 0, Temp: 300050, Through: 7, Age: 9}},
		{api.State{Charge: 1, Relax: -6, Temp: 300050, Through: 7, Age: 9}, []int{1}, api.State{Charge: 1, Relax: -5, Temp: 300050, Through: 7, Age: 9}},
		{api.State{Charge: 1, Relax: 6, Temp: 299999, Through: 7, Age: 9}, []int{1, 2}, api.State{Charge: 1, Relax: 5, Temp: 300000, Through: 7, Age: 9}},
		{api.State{Charge: 1, Relax: 0, Temp: 300101, Through: 6, Age: -1}, []int{2, 3, 4}, api.State{Charge: 1, Relax: 0, Temp: 300100, Through: 7}},
		{api.State{Charge: 1, Relax: 0, Temp: 300100, Through: 8, Age: most + 1}, []int{3, 4}, api.State{Charge: 1, Relax: 0, Temp: 300100, Through: 7, Age: most}},
		{api.State{}, []int{0, 2, 3}, api.State{Charge: 1, Temp: 300000, Through: 7}},
		{api.State{Charge: least, Relax: least, Temp: least, Through: least, Age: least}, []int{0, 1, 2, 3, 4}, api.State{Charge: 1, Relax: -5, Temp: 300000, Through: 7}},
		{api.State{Charge: greatest, Relax: greatest, Temp: greatest, Through: greatest, Age: greatest}, []int{0, 1, 2, 3, 4}, api.State{Charge: 2, Relax: 5, Temp: 300100, Through: 7, Age: most}},
	} {
		if got, e := estimate.Apart(b, x.s); e != api.OK || !slices.Equal(got, x.apart) {
			t.Errorf("Apart of %v: %v, %d, not %v", x.s, got, e, x.apart)
		}
		if got := of(estimate.Pull(b, x.s)); got != good(x.pulled) {
			t.Errorf("Pull of %v: %v, not %v", x.s, got, x.pulled)
		}
	}
}

// P3.10, R3: boxes that are no state boxes.
func TestApartAndPullErrors(t *testing.T) {
	for _, b := range wildBoxes() {
		for _, s := range []api.State{half(), {}, {Charge: math.MinInt64}} {
			if got, e := estimate.Apart(b, s); e != api.ErrArg || len(got) != 0 {
				t.Errorf("Apart of %v, %v: %v, %d", b, s, got, e)
			}
			if got := of(estimate.Pull(b, s)); got != bad[api.State](api.ErrArg) {
				t.Errorf("Pull of %v, %v: %v", b, s, got)
			}
		}
	}
	for _, b := range [][]api.Span{stateRanges(), points(0, -1<<23, 0, 0, 0), points(1<<32, 1<<23, 400000, most, most)} {
		_, e := estimate.Apart(b, half())
		_, e2 := estimate.Pull(b, half())
		if e != api.OK || e2 != api.OK {
			t.Errorf("Apart and Pull of %v: %d, %d", b, e, e2)
		}
	}
}

// P3.10, P3.15: boxes and states that are drawn: what is pulled is in the box and no nearer than it has to be, and what is in the box stays as it is.
func TestPulledThatIsDrawn(t *testing.T) {
	r := chance(10)
	for range 5000 {
		var b []api.Span
		var inside, any []int64
		for _, s := range stateRanges() {
			part := drawSpan(r, s.Lo, s.Hi)
			b, inside, any = append(b, part), append(inside, drawIn(r, part)), append(any, drawFrom(r, -2*most, 2*most))
			if r.Intn(2) == 0 {
				any[len(any)-1] = drawIn(r, part)
			}
		}
		s, _ := cell.Of(any)
		pulled, e := estimate.Pull(b, s)
		apart, e2 := estimate.Apart(b, s)
		if e != api.OK || e2 != api.OK || !quantity.BoxHas(b, cell.Vector(pulled)) {
			t.Fatalf("Pull of %v, %v: %v, %d, %d", b, s, pulled, e, e2)
		}
		var want []int
		for i, x := range any {
			near := cell.Vector(pulled)[i]
			if x == near {
				continue
			}
			want = append(want, i)
			if x < b[i].Lo && near != b[i].Lo || x > b[i].Hi && near != b[i].Hi || quantity.Has(b[i], x) {
				t.Errorf("Pull of %v, %v: %v", b, s, pulled)
			}
		}
		if !slices.Equal(apart, want) {
			t.Errorf("Apart of %v, %v: %v, not %v", b, s, apart, want)
		}
		if l, e := estimate.Apart(b, pulled); e != api.OK || len(l) != 0 {
			t.Errorf("Apart of %v, which was pulled into %v: %v, %d", pulled, b, l, e)
		}
		in, _ := cell.Of(inside)
		if got := of(estimate.Pull(b, in)); got != good(in) {
			t.Errorf("Pull of %v, which is in %v: %v", in, b, got)
		}
	}
}
