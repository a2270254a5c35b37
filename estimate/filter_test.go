package estimate_test

import (
	"math"
	"testing"

	"coulomb/api"
	"coulomb/cell"
	"coulomb/estimate"
)

// P3.8: filters with gains within the limits begin in the state that is given.
func TestNewFilter(t *testing.T) {
	for _, g := range []api.Gains{{}, {Charge: most}, {Relax: most}, {Temp: most}, {Charge: most, Relax: most, Temp: most}, {Charge: 1, Relax: 2, Temp: 3}} {
		for _, s := range []api.State{{}, half(), {Relax: -1 << 23, Temp: 400000, Through: most, Age: most}} {
			if f := filter(t, model(), g, s); f.State() != s {
				t.Errorf("the state of a filter with %v: %v, not %v", g, f.State(), s)
			}
		}
	}
}

// P3.8, R1: the errors of NewFilter, in their order.
func TestNewFilterErrors(t *testing.T) {
	check := func(c api.Cell, g api.Gains, s api.State, want api.Errno) {
		t.Helper()
		if f, e := estimate.NewFilter(c, g, s); f != nil || e != want {
			t.Errorf("NewFilter of %v, %v, %v: %v, %d", c, g, s, f, e)
		}
	}
	for _, c := range wildCells() {
		check(c, api.Gains{}, half(), api.ErrArg)
		check(c, api.Gains{Temp: -1}, api.State{Charge: -1}, api.ErrArg)
	}
	for _, x := range append(wildNumbers(), -1, most+1) {
		for _, g := range []api.Gains{{Charge: x}, {Relax: x}, {Temp: x}, {Charge: x, Relax: x, Temp: x}} {
			check(model(), g, half(), api.ErrArg)
			check(model(), g, api.State{Charge: -1}, api.ErrArg)
		}
	}
	for _, s := range wildStates() {
		check(model(), api.Gains{Charge: most}, s, api.ErrRange)
	}
}

// steady is a cell whose state does not change, but for what a filter corrects, if no current flows; its voltage in the state half is 3,500,000.
func steady(changes ...func(c *api.Cell)) api.Cell {
	c := model(func(c *api.Cell) {
		c.Keep, c.Pair, c.Leak, c.CycleLoss, c.HeatCap, c.Stress = 65536, 0, 0, 0, most, curve(0, 0, 400000, 0)
	})
	for _, change := range changes {
		change(&c)
	}
	return c
}

// P3.9: what is corrected by one reading, and roundings and ranges of it.
func TestTakeOfAFilter(t *testing.T) {
	with := func(change func(s *api.State)) api.State {
		s := half()
		change(&s)
		return s
	}
	charged := func(x int64) api.State { return with(func(s *api.State) { s.Charge = x }) }
	relaxed := func(x int64) api.State { return with(func(s *api.State) { s.Relax = x }) }
	warm := func(x int64) api.State { return with(func(s *api.State) { s.Temp = x }) }
	all := api.Gains{Charge: 65536, Relax: 65536, Temp: 65536}
	for _, x := range []struct {
		name string
		g    api.Gains
		r    api.Reading
		want api.State
	}{
		{"nothing", all, api.Reading{}, half()},
		{"no values", all, api.Reading{Value: [4]int64{1, 2, 3, 4}}, half()},
		{"no gains", api.Gains{}, both(volt(3600000), temp(5)), half()},
		{"the voltage that it has", all, volt(3500000), half()},
		{"a greater voltage", api.Gains{Charge: 65536}, volt(3500020), charged(500020)},
		{"a lesser voltage", api.Gains{Charge: 65536}, volt(3499980), charged(499980)},
		{"a greater voltage, rounded down", api.Gains{Charge: 100}, volt(3501000), charged(500001)},
		{"a lesser voltage, rounded down", api.Gains{Charge: 100}, volt(3499000), charged(499998)},
		{"a lesser voltage, just", api.Gains{Charge: 1}, volt(3499999), charged(499999)},
		{"a greater voltage, just", api.Gains{Charge: 1}, volt(3565535), charged(500000)},
		{"a gain and a half", api.Gains{Charge: 65536 + 32768}, volt(3500003), charged(500004)},
		{"all the charge", api.Gains{Charge: 65536}, volt(4000000), charged(1000000)},
		{"more charge than fits", api.Gains{Charge: most}, volt(1 << 30), charged(1000000)},
		{"no charge", api.Gains{Charge: 65536}, volt(3000000), charged(0)},
		{"less than no charge", api.Gains{Charge: most}, volt(-1 << 30), charged(0)},
		{"a relaxation", api.Gains{Relax: 65536}, volt(3500020), relaxed(-20)},
		{"a relaxation, upwards", api.Gains{Relax: 65536}, volt(3499980), relaxed(20)},
		{"a relaxation, rounded", api.Gains{Relax: 100}, volt(3501000), relaxed(-1)},
		{"a relaxation upwards, rounded", api.Gains{Relax: 100}, volt(3499000), relaxed(2)},
		{"the least relaxation", api.Gains{Relax: most}, volt(1 << 30), relaxed(-1 << 23)},
		{"the greatest relaxation", api.Gains{Relax: most}, volt(-1 << 30), relaxed(1 << 23)},
		{"a temperature", api.Gains{Temp: 32768}, temp(300009), warm(300004)},
		{"a lesser temperature", api.Gains{Temp: 32768}, temp(299991), warm(299995)},
		{"the greatest temperature", api.Gains{Temp: 65536}, temp(400001), warm(400000)},
		{"the least temperature", api.Gains{Temp: 65536}, temp(-1), warm(0)},
		{"far beyond it", api.Gains{Temp: most}, temp(1 << 30), warm(400000)},
		{"far below it", api.Gains{Temp: most}, temp(-1 << 30), warm(0)},
		{"all at once", all, both(volt(3500100), temp(300100)), api.State{Charge: 500100, Relax: -100, Temp: 300100}},
	} {
		f := filter(t, steady(), x.g, half())
		if e := f.Take(x.r); e != api.OK || f.State() != x.want {
			t.Errorf("%s: %d, %v, not %v", x.name, e, f.State(), x.want)
		}
	}
}

// P3.9: a current and an ambient temperature last until others are shown; they are brought into their ranges.
func TestInputOfAFilter(t *testing.T) {
	f := filter(t, steady(func(c *api.Cell) { c.Cool = 65536 }), api.Gains{}, half())
	check := func(r api.Reading, charge, through, temp int64) {
		t.Helper()
		if e := f.Take(r); e != api.OK || f.State() != (api.State{Charge: charge, Temp: temp, Through: through}) {
			t.Errorf("Take of %v: %d, %v", r, e, f.State())
		}
	}
	check(api.Reading{}, 500000, 0, 300000) // at first, no current, and the temperature around the cell is its own
	check(current(70), 499930, 70, 300000)
	check(api.Reading{}, 499860, 140, 300000)
	check(ambient(290000), 499790, 210, 290000)
	check(volt(5), 499720, 280, 290000)
	check(both(current(-20), temp(7)), 499740, 300, 290000)
	check(ambient(400001), 499760, 320, 400000)
	check(ambient(-1), 499780, 340, 0)
	check(both(current(0), ambient(1<<30)), 499780, 340, 400000)
	check(both(current(0), ambient(-1<<30)), 499780, 340, 0)
	check(both(current(-1<<20-1), ambient(5)), 1000000, 340+1<<20, 5)
	check(current(1<<30), 0, 340+2<<20, 5)
	check(current(-1<<30), 1000000, 340+3<<20, 5)
	check(api.Reading{Value: [4]int64{0, 7, 0, 7}}, 1000000, 340+4<<20, 5)
}

// P3.9: the voltage is that for the current that is shown with it; what the voltage corrects does not depend on the temperature that is shown.
func TestVoltageForTheCurrent(t *testing.T) {
	c := steady(func(c *api.Cell) { c.Cold = curve(0, 0, 400000, 400000) }) // 100,000 microohm at 300,000 mK
	f := filter(t, c, api.Gains{Charge: 65536, Temp: 65536}, half())
	if e := f.Take(both(both(volt(3400000), current(1000)), temp(200000))); e != api.OK || f.State().Charge != 499000 || f.State().Temp != 200000 {
		t.Errorf("the first reading: %d, %v", e, f.State())
	}
	// the fill is 32702, so the voltage is 3,498,992 less 200,000
	if e := f.Take(volt(3298992)); e != api.OK || f.State().Charge != 498000 {
		t.Errorf("the second reading: %d, %v", e, f.State())
	}
}

// P3.9, R2: readings that are not possible, and those beyond the limits, change nothing.
func TestTakeErrorsOfAFilter(t *testing.T) {
	s := api.State{Charge: 5000, Temp: 300000, Through: most - 100}
	f := filter(t, steady(), api.Gains{Charge: 65536, Temp: 65536}, s)
	check := func(r api.Reading, want api.Errno) {
		t.Helper()
		if e := f.Take(r); e != want || f.State() != s {
			t.Errorf("Take of %v: %d, %v", r, e, f.State())
		}
	}
	for i := range 4 {
		for _, x := range append(wildNumbers(), 1<<30+1, -1<<30-1) {
			check(shows(i, x), api.ErrRange)
			check(both(current(101), shows(i, x)), api.ErrRange)
		}
	}
	check(current(101), api.ErrOver)
	check(both(volt(3700000), current(-101)), api.ErrOver)
	check(both(both(temp(5), ambient(7)), current(1<<30)), api.ErrOver)
	// neither the currents nor the ambient temperatures of these have become those of the filter
	check(api.Reading{Value: [4]int64{math.MaxInt64, math.MinInt64, math.MaxInt64, math.MinInt64}}, api.OK)
	s.Charge, s.Through = s.Charge-100, most
	check(current(100), api.OK)
	check(api.Reading{}, api.ErrOver)
	check(current(0), api.OK)
	old := filter(t, model(), api.Gains{}, api.State{Temp: 1, Age: most})
	if e := old.Take(api.Reading{}); e != api.ErrOver || old.State() != (api.State{Temp: 1, Age: most}) {
		t.Errorf("one that is too old: %d, %v", e, old.State())
	}
}

// P3.8, P3.9: filters and readings that are drawn, against the chapter in numbers of any size.
func TestFiltersThatAreDrawn(t *testing.T) {
	r := chance(9)
	counts := map[api.Errno]int{}
	for i := range 3000 {
		c := drawCell(r)
		if i%2 == 0 {
			c = model(func(c *api.Cell) { c.Cool, c.Cold = r.Int63n(65537), drawCurve(r, 400000, 100000) })
		}
		g, s := api.Gains{Charge: drawFrom(r, 0, most), Relax: drawFrom(r, 0, most), Temp: drawFrom(r, 0, most)}, drawState(r, c)
		if i%2 == 0 {
			g, s = api.Gains{Charge: r.Int63n(1 << 18), Relax: r.Int63n(1 << 15), Temp: r.Int63n(1 << 16)}, half()
		}
		f, p := filter(t, c, g, s), plainFilter{c: c, g: g, s: s, ambient: s.Temp}
		for range 10 {
			var reading api.Reading
			for k, around := range []int64{3500000, 0, 300000, 300000} {
				reading.Has[k], reading.Value[k] = r.Intn(3) > 0, around+drawFrom(r, -50000, 50000)
				if r.Intn(8) == 0 {
					reading.Value[k] = drawFrom(r, -1<<30, 1<<30)
				}
				if r.Intn(40) == 0 {
					reading.Value[k] = pick(r, wildNumbers())
				}
			}
			e, want := f.Take(reading), p.take(reading)
			counts[e]++
			if e != want || f.State() != p.s {
				t.Errorf("Take of %v by %v, %v: %d, %v, not %d, %v", reading, c, g, e, f.State(), want, p.s)
			}
			if e := cell.CheckState(c, f.State()); e != api.OK {
				t.Errorf("the state %v is not valid for %v", f.State(), c)
			}
		}
	}
	for _, e := range []api.Errno{api.OK, api.ErrRange, api.ErrOver} {
		if counts[e] < 100 {
			t.Errorf("the error %d comes just %d times", e, counts[e])
		}
	}
}
