package cell_test

import (
	"math/rand"
	"slices"
	"testing"

	"coulomb/api"
	"coulomb/cell"
	"coulomb/quantity"
)

// drawCase draws a cell with tolerances and boxes; every other one is calm: small numbers, which are brought into no range.
func drawCase(r *rand.Rand) (c api.Cell, tol, b, in []api.Span) {
	c = drawCell(r)
	tol, b, in = drawTolerances(r, c), drawBox(r), drawInputBox(r)
	if r.Intn(2) == 0 {
		return c, tol, b, in
	}
	c = model(func(c *api.Cell) { c.Cold, c.Stress = drawCurve(r, 400000, 5000), drawCurve(r, 400000, 50) })
	c.Cool, c.Growth, c.AgeLoss = r.Int63n(1000), r.Int63n(100000), r.Int63n(100000)
	for i, width := range []int64{5000, 20000, 100, 400, 9, 900, 500} {
		lo := -r.Int63n(width)
		if i == 6 {
			lo = 0
		}
		tol[i] = span(lo, lo+r.Int63n(width))
	}
	charge, relax, temp, through, age := r.Int63n(900000), r.Int63n(20000)-10000, 250000+r.Int63n(80000), r.Int63n(1<<26), r.Int63n(1<<20)
	b = box(charge, charge+r.Int63n(50000), relax, relax+r.Int63n(5000), temp, temp+r.Int63n(2000), through, through+r.Int63n(100000), age, age+r.Int63n(1000))
	current, ambient := r.Int63n(40000)-20000, 250000+r.Int63n(80000)
	return c, tol, b, box(current, current+r.Int63n(5000), ambient, ambient+r.Int63n(2000))
}

// P2.13: what a cell within the tolerances does is in the boxes.
func TestContained(t *testing.T) {
	r := chance(9)
	members, steps := 0, 0
	for range 4000 {
		c, tol, b, in := drawCase(r)
		volts, e := cell.VoltageBox(c, tol, b, in[0])
		fill, e2 := cell.FillBox(c, tol, b)
		after, e3 := cell.StepBox(c, tol, b, in)
		if e != api.OK || e2 != api.OK || e3 != api.OK && e3 != api.ErrOver {
			t.Fatalf("%v, %v, %v, %v: %d, %d, %d", c, tol, b, in, e, e2, e3)
		}
		for range 10 {
			member, s, ok := drawMember(r, c, tol, b)
			if !ok {
				continue
			}
			members++
			input := api.Input{Current: drawIn(r, in[0]), Ambient: drawIn(r, in[1])}
			if v, e := cell.Voltage(member, s, input.Current); e != api.OK || !quantity.Has(volts, v) {
				t.Errorf("%v, %v, %v, %v: the voltage of %v, %v, %v: %d, %d is not in %v", c, tol, b, in, member, s, input, v, e, volts)
			}
			if f, e := cell.Fill(member, s); e != api.OK || !quantity.Has(fill, f) {
				t.Errorf("%v, %v, %v, %v: the fill of %v, %v: %d, %d is not in %v", c, tol, b, in, member, s, f, e, fill)
			}
			next, e := cell.Step(member, s, input)
			if e != api.OK || e3 != api.OK {
				continue
			}
			steps++
			if !quantity.BoxHas(after, cell.Vector(next)) {
				t.Errorf("%v, %v, %v, %v: the step of %v, %v, %v: %v is not in %v", c, tol, b, in, member, s, input, next, after)
			}
		}
	}
	if members < 10000 || steps < 5000 {
		t.Errorf("only %d members and %d steps", members, steps)
	}
}

// P2.13: boxes behind many steps.
func TestContainedForLong(t *testing.T) {
	r := chance(10)
	for range 100 {
		c, tol, b, in := drawCase(r)
		member, s, ok := drawMember(r, c, tol, b)
		for i := 0; i < 100 && ok; i++ {
			after, e := cell.StepBox(c, tol, b, in)
			next, e2 := cell.Step(member, s, api.Input{Current: drawIn(r, in[0]), Ambient: drawIn(r, in[1])})
			if e != api.OK || e2 != api.OK {
				break
			}
			if !quantity.BoxHas(after, cell.Vector(next)) {
				t.Fatalf("%v, %v, %v behind %d steps: %v is not in %v", c, tol, in, i, next, after)
			}
			b, s = after, next
		}
	}
}

// P2.14: boxes of points are points.
func TestPoints(t *testing.T) {
	r := chance(11)
	point := func(x int64, e api.Errno) spanResult { return spanResult{span(x, x), e} }
	none := make([]api.Span, 7)
	for range 10000 {
		c, in := drawCell(r), drawInput(r)
		s := drawState(r, c)
		b := points(cell.Vector(s)...)
		current := span(in.Current, in.Current)
		if got, want := spanOf(cell.VoltageBox(c, none, b, current)), point(cell.Voltage(c, s, in.Current)); got != want {
			t.Errorf("the voltage of %v, %v, %v: %v, not %v", c, s, in, got, want)
		}
		if got, want := spanOf(cell.FillBox(c, none, b)), point(cell.Fill(c, s)); got != want {
			t.Errorf("the fill of %v, %v: %v, not %v", c, s, got, want)
		}
		next, want := cell.Step(c, s, in)
		got, e := cell.StepBox(c, none, b, points(in.Current, in.Ambient))
		if e != want || e == api.OK && !slices.Equal(got, points(cell.Vector(next)...)) {
			t.Errorf("the step of %v, %v, %v: %v, %d, not %v, %d", c, s, in, got, e, next, want)
		}
	}
}

// P2.15: the results of smaller boxes are inside.
func TestSmallerBoxes(t *testing.T) {
	r := chance(12)
	for range 10000 {
		c, tol, b, in := drawCase(r)
		tol2, b2, in2 := drawParts(r, tol), drawParts(r, b), drawParts(r, in)
		volts, e := cell.VoltageBox(c, tol, b, in[0])
		volts2, e2 := cell.VoltageBox(c, tol2, b2, in2[0])
		if e != api.OK || e2 != api.OK || !quantity.Inside(volts2, volts) {
			t.Errorf("the voltage of %v, %v, %v, %v: %v, and of %v, %v, %v: %v", c, tol, b, in[0], volts, tol2, b2, in2[0], volts2)
		}
		fill, e := cell.FillBox(c, tol, b)
		fill2, e2 := cell.FillBox(c, tol2, b2)
		if e != api.OK || e2 != api.OK || !quantity.Inside(fill2, fill) {
			t.Errorf("the fill of %v, %v, %v: %v, and of %v, %v: %v", c, tol, b, fill, tol2, b2, fill2)
		}
		after, e := cell.StepBox(c, tol, b, in)
		after2, e2 := cell.StepBox(c, tol2, b2, in2)
		if e == api.OK && (e2 != api.OK || !quantity.BoxInside(after2, after)) {
			t.Errorf("the step of %v, %v, %v, %v: %v, and of %v, %v, %v: %v, %d", c, tol, b, in, after, tol2, b2, in2, after2, e2)
		}
	}
}

// P2.16: what more charge, and more current, does.
func TestOrder(t *testing.T) {
	r := chance(13)
	for range 10000 {
		c, in := drawCell(r), drawInput(r)
		less := drawState(r, c)
		more := less
		more.Charge = drawFrom(r, less.Charge, modelOf(c, less).capacity())
		for i, f := range quantityCalls(in.Current) {
			a, e := f.call(c, less)
			b, e2 := f.call(c, more)
			if i != 1 && i != 3 && i != 5 { // the fill, the open voltage, and the voltage
				continue
			}
			if e != api.OK || e2 != api.OK || a > b {
				t.Errorf("%s of %v, %v: %d, and with %d: %d", f.name, c, less, a, more.Charge, b)
			}
		}
		a, e := cell.Step(c, less, in)
		b, e2 := cell.Step(c, more, in)
		if a.Charge > b.Charge {
			t.Errorf("the step of %v, %v: %v, and with %d: %v", c, less, a, more.Charge, b)
		}
		a.Charge, b.Charge = 0, 0
		if e != e2 || a != b {
			t.Errorf("the step of %v, %v: %v, %d, and with %d: %v, %d", c, less, a, e, more.Charge, b, e2)
		}
		greater := drawFrom(r, in.Current, 1<<20)
		if v, w := numberOf(cell.Voltage(c, less, in.Current)), numberOf(cell.Voltage(c, less, greater)); v.number < w.number {
			t.Errorf("the voltage of %v, %v for %d: %v, and for %d: %v", c, less, in.Current, v, greater, w)
		}
	}
}

// P2.17: what is safe for a box is safe for the states in it.
func TestSafeForAll(t *testing.T) {
	r := chance(14)
	found := 0
	for range 5000 {
		c, tol, b, in := drawCase(r)
		x := boxOf(c, tol, b)
		lim := drawTight(r, x.volts(span(0, 0)).Lo, x.temps(span(0, 0), in[1]).Hi)
		greatest, e := cell.SafeOut(c, tol, b, lim, in[1])
		if e != api.OK {
			continue
		}
		for range 5 {
			member, s, ok := drawMember(r, c, tol, b)
			if !ok {
				continue
			}
			found++
			current, ambient := drawFrom(r, 0, greatest), drawIn(r, in[1])
			if !modelOf(member, s).safeOut(current, lim, ambient) {
				t.Errorf("SafeOut of %v, %v, %v, %v, %v: %d, and %d is not safe for %v, %v, %d", c, tol, b, lim, in[1], greatest, current, member, s, ambient)
			}
			if most := numberOf(cell.MostOut(member, s, lim, ambient)); most.errno != api.OK || most.number < greatest {
				t.Errorf("SafeOut of %v, %v, %v, %v, %v: %d, and MostOut of %v, %v, %d: %v", c, tol, b, lim, in[1], greatest, member, s, ambient, most)
			}
		}
	}
	if found < 1000 {
		t.Errorf("only %d members", found)
	}
}

// P2.18: nothing gets younger.
func TestAgeing(t *testing.T) {
	r := chance(15)
	for range 300 {
		c := drawCell(r)
		s := drawState(r, c)
		capacity := modelOf(c, s).capacity()
		var l []api.Input
		for range 20 {
			l = append(l, drawInput(r))
		}
		states, e := cell.Run(c, s, l)
		for e == api.ErrOver { // the last input is too much
			l = l[:len(l)-1]
			states, e = cell.Run(c, s, l)
		}
		if e != api.OK || len(states) != len(l) {
			t.Fatalf("Run of %v, %v, %v: %d", c, s, l, e)
		}
		for _, next := range states {
			left, e := cell.Capacity(c, next)
			if e != api.OK || next.Through < s.Through || next.Age < s.Age || left > capacity {
				t.Errorf("%v, %v, %d: behind it %v, %d, %d", c, s, capacity, next, left, e)
			}
			s, capacity = next, left
		}
	}
}

// P2.19: as long as no Charge is brought into its range, it is what is left.
func TestAccounts(t *testing.T) {
	r := chance(16)
	for range 200 {
		c := model(func(c *api.Cell) { c.Leak, c.AgeLoss, c.Capacity = r.Int63n(50), r.Int63n(1<<20), 1<<32 })
		var l []api.Input
		for range 200 {
			l = append(l, api.Input{Current: drawFrom(r, -1<<20, 1<<20), Ambient: 300000})
		}
		s := api.State{Charge: 1 << 31, Temp: 300000}
		states, e := cell.Run(c, s, l)
		if e != api.OK || len(states) != len(l) {
			t.Fatalf("Run: %d states, %d", len(states), e)
		}
		want := s.Charge
		for i, next := range states {
			if want -= l[i].Current + c.Leak; next.Charge != want {
				t.Fatalf("behind %d inputs: %d, not %d", i+1, next.Charge, want)
			}
		}
	}
}
