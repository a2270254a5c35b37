package cell_test

import (
	"slices"
	"testing"

	"coulomb/api"
	"coulomb/cell"
)

// P2.10: the example of the chapter.
func TestStepBoxExample(t *testing.T) {
	got, e := cell.StepBox(model(), make([]api.Span, 7), points(500000, 0, 300000, 0, 0), box(9000, 10000, 300000, 300000))
	if e != api.OK || !slices.Equal(got, box(489990, 490990, 2250, 2500, 300081, 300100, 9000, 10000, 1, 1)) {
		t.Errorf("%v, %d", got, e)
	}
}

// P2.9: the spans of the voltage and of the fill, one by one.
func TestVoltageAndFill(t *testing.T) {
	none := make([]api.Span, 7)
	point := points(500000, 0, 300000, 0, 0)
	steep := model(func(c *api.Cell) { c.Cold = curve(0, 0, 400000, 400000) })
	worn := model(func(c *api.Cell) { c.Growth, c.AgeLoss = 65536, 1<<20 })
	wider := func(i int, s api.Span, b []api.Span) []api.Span {
		changed := slices.Clone(b)
		changed[i] = s
		return changed
	}
	for _, x := range []struct {
		name    string
		c       api.Cell
		tol     []api.Span
		box     []api.Span
		current api.Span
		volts   api.Span
		fill    api.Span
	}{
		{"a point", model(), none, point, span(10000, 10000), span(3490000, 3490000), span(32768, 32768)},
		{"currents of both signs", model(), none, point, span(-3, 10001), span(3489999, 3500003), span(32768, 32768)},
		{"currents in", model(), none, point, span(-3, -2), span(3500002, 3500003), span(32768, 32768)},
		{"roundings", model(func(c *api.Cell) { c.Cold = curve(0, 999, 400000, 999) }), none, point, span(-3, 2), span(3499999, 3500003), span(32768, 32768)},
		{"charges", model(), none, wider(0, span(1, 999999), point), span(0, 0), span(3000000, 3999984), span(0, 65535)},
		{"more than fits", model(), none, wider(0, span(1000001, 1<<32), point), span(0, 0), span(4000000, 4000000), span(65536, 65536)},
		{"capacities", model(), wider(0, span(-500000, 1000000), none), point, span(0, 0), span(3250000, 4000000), span(16384, 65536)},
		{"shifts", model(), wider(1, span(-7, 9), none), point, span(0, 0), span(3499993, 3500009), span(32768, 32768)},
		{"relaxations", model(), none, wider(1, span(-8, 3), point), span(0, 0), span(3499997, 3500008), span(32768, 32768)},
		{"resistances, out", model(), wider(2, span(-400, 500), none), point, span(1000, 2000), span(3497000, 3499400), span(32768, 32768)},
		{"resistances, in", model(), wider(2, span(-400, 500), none), point, span(-2000, -1000), span(3500600, 3503000), span(32768, 32768)},
		{"resistances, both", model(), wider(2, span(-400, 500), none), point, span(-2000, 1000), span(3498500, 3503000), span(32768, 32768)},
		{"warm and cold", steep, none, wider(2, span(100000, 399000), point), span(1000, 1000), span(3200000, 3499000), span(32768, 32768)},
		{"new and old", worn, none, wider(3, span(0, 2048), wider(4, span(1024, 5000), point)), span(1000000, 1000000), span(2494000, 2499000), span(32768, 32768)},
		{"used up", worn, none, wider(3, span(0, most), point), span(0, 0), span(3500000, 4000000), span(32768, 65536)},
	} {
		if got := spanOf(cell.VoltageBox(x.c, x.tol, x.box, x.current)); got != (spanResult{x.volts, api.OK}) {
			t.Errorf("%s: the voltage: %v", x.name, got)
		}
		if got := spanOf(cell.FillBox(x.c, x.tol, x.box)); got != (spanResult{x.fill, api.OK}) {
			t.Errorf("%s: the fill: %v", x.name, got)
		}
	}
}

// P2.9, P2.10: cells, tolerances and boxes that are drawn, against the tables in numbers of any size.
func TestBoxesThatAreDrawn(t *testing.T) {
	r := chance(7)
	for range 20000 {
		c := drawCell(r)
		tol, b, in := drawTolerances(r, c), drawBox(r), drawInputBox(r)
		x := boxOf(c, tol, b)
		if got, want := spanOf(cell.VoltageBox(c, tol, b, in[0])), x.volts(in[0]); got != (spanResult{want, api.OK}) {
			t.Errorf("VoltageBox of %v, %v, %v, %v: %v, not %v", c, tol, b, in[0], got, want)
		}
		if got := spanOf(cell.FillBox(c, tol, b)); got != (spanResult{x.fill, api.OK}) {
			t.Errorf("FillBox of %v, %v, %v: %v, not %v", c, tol, b, got, x.fill)
		}
		want, wantErrno := x.next(in[0], in[1]), api.OK
		if want[3].Hi > most || want[4].Hi > most {
			want, wantErrno = nil, api.ErrOver
		}
		if got, e := cell.StepBox(c, tol, b, in); e != wantErrno || !slices.Equal(got, want) {
			t.Errorf("StepBox of %v, %v, %v, %v: %v, %d, not %v", c, tol, b, in, got, e, want)
		}
	}
}

// P2.10: the errors of what is beyond the limits.
func TestStepBoxBeyond(t *testing.T) {
	for _, x := range []struct {
		through, age, current api.Span
		want                  api.Errno
	}{
		{span(0, most-5), span(0, 0), span(0, 5), api.OK}, {span(0, most-5), span(0, 0), span(-5, 0), api.OK}, {span(0, most-5), span(0, 0), span(0, 6), api.ErrOver}, {span(0, most-5), span(0, 0), span(-6, 0), api.ErrOver},
		{span(most, most), span(0, 0), span(0, 0), api.OK}, {span(most, most), span(0, 0), span(1, 1), api.ErrOver}, {span(most, most), span(0, 0), span(-1<<20, 1<<20), api.ErrOver},
		{span(0, 0), span(0, most-1), span(0, 0), api.OK}, {span(0, 0), span(0, most), span(0, 0), api.ErrOver}, {span(0, 0), span(most, most), span(0, 0), api.ErrOver}, {span(0, most), span(0, most), span(0, 1), api.ErrOver},
	} {
		b := []api.Span{span(0, 5), span(0, 0), span(0, 0), x.through, x.age}
		got, e := cell.StepBox(model(), make([]api.Span, 7), b, []api.Span{x.current, span(0, 0)})
		if e != x.want || e != api.OK && len(got) != 0 {
			t.Errorf("StepBox of %v with %v: %v, %d", b, x.current, got, e)
		}
	}
}

// boxCall is a function of boxes, with all that it needs: it returns its error, and whether its other result is zero.
type boxCall struct {
	name string
	call func(c api.Cell, tol, b []api.Span) (api.Errno, bool)
}

// boxCalls are the functions of boxes, with an input box, limits, a span of currents and one of ambient temperatures.
func boxCalls(in []api.Span, lim api.Limits, current, ambient api.Span) []boxCall {
	return []boxCall{
		{"VoltageBox", func(c api.Cell, tol, b []api.Span) (api.Errno, bool) {
			s, e := cell.VoltageBox(c, tol, b, current)
			return e, s == api.Span{}
		}},
		{"FillBox", func(c api.Cell, tol, b []api.Span) (api.Errno, bool) {
			s, e := cell.FillBox(c, tol, b)
			return e, s == api.Span{}
		}},
		{"StepBox", func(c api.Cell, tol, b []api.Span) (api.Errno, bool) {
			l, e := cell.StepBox(c, tol, b, in)
			return e, len(l) == 0
		}},
		{"SafeOut", func(c api.Cell, tol, b []api.Span) (api.Errno, bool) {
			n, e := cell.SafeOut(c, tol, b, lim, ambient)
			return e, n == 0
		}},
	}
}

// P2.9 to P2.11: the errors of cells, tolerances and boxes, which come before those of what else is given.
func TestBoxErrors(t *testing.T) {
	wrong := span(1, 0)
	for _, calls := range [][]boxCall{
		boxCalls(box(0, 0, 0, 0), wide(), span(0, 0), span(0, 0)),
		boxCalls(nil, api.Limits{Out: -1}, wrong, wrong),
	} {
		for _, f := range calls {
			check := func(c api.Cell, tol, b []api.Span, want api.Errno) {
				t.Helper()
				if e, zero := f.call(c, tol, b); e != want || !zero {
					t.Errorf("%s of %v, %v, %v: %d", f.name, c, tol, b, e)
				}
			}
			for _, w := range wildCells() {
				check(w, make([]api.Span, 7), halfBox(), api.ErrArg)
				check(w, impossible()[0], nil, api.ErrArg)
			}
			for _, tol := range wildTolerances() {
				check(model(), tol, halfBox(), api.ErrArg)
			}
			for _, tol := range impossible() {
				check(model(), tol, halfBox(), api.ErrRange)
				check(model(), tol, nil, api.ErrRange)
			}
			for _, b := range wildBoxes() {
				check(model(), make([]api.Span, 7), b, api.ErrArg)
			}
		}
	}
}

// P2.9 to P2.11: the errors of spans, input boxes and limits, and those that come later.
func TestBoxErrorsOfTheRest(t *testing.T) {
	none := make([]api.Span, 7)
	beyond := points(0, 0, 0, most, most)
	check := func(in []api.Span, lim api.Limits, current, ambient api.Span, i int) {
		t.Helper()
		f := boxCalls(in, lim, current, ambient)[i]
		for _, b := range [][]api.Span{halfBox(), beyond} { // the errors ErrOver and ErrLimit come later
			if e, zero := f.call(model(), none, b); e != api.ErrArg || !zero {
				t.Errorf("%s with %v, %v, %v, %v: %d", f.name, in, lim, current, ambient, e)
			}
		}
	}
	for _, s := range wildCurrents() {
		check(nil, api.Limits{}, s, api.Span{}, 0)
	}
	for _, in := range wildInputBoxes() {
		check(in, api.Limits{}, api.Span{}, api.Span{}, 2)
	}
	for _, lim := range wildLimits() {
		check(nil, lim, api.Span{}, api.Span{}, 3)
	}
	for _, s := range wildAmbients() {
		check(nil, wide(), api.Span{}, s, 3)
		check(nil, api.Limits{Least: 1, Most: 1}, api.Span{}, s, 3)
	}
	wide := boxCalls(box(-1<<20, 1<<20, 0, 400000), wide(), span(-1<<20, 1<<20), span(0, 400000))
	edges := box(0, 1<<32, -1<<23, 1<<23, 0, 400000, 0, most-1<<20, 0, most-1)
	for i, want := range []api.Errno{api.OK, api.OK, api.OK, api.ErrLimit} {
		if e, _ := wide[i].call(model(), none, edges); e != want {
			t.Errorf("%s with spans at the limits: %d", wide[i].name, e)
		}
	}
	if e, _ := wide[3].call(model(func(c *api.Cell) { c.Leak = 0 }), none, append(points(5, 0), edges[2:]...)); e != api.OK {
		t.Errorf("SafeOut with spans at the limits: %d", e)
	}
}
