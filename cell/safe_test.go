package cell_test

import (
	"math/rand"
	"testing"

	"coulomb/api"
	"coulomb/cell"
)

// cool is a cell without heat, leak and age, so that limits are passed one by one.
func cool(changes ...func(c *api.Cell)) api.Cell {
	return model(append([]func(c *api.Cell){func(c *api.Cell) { c.Leak, c.HeatCap, c.CycleLoss = 0, most, 0 }}, changes...)...)
}

// with are wide limits, changed.
func with(change func(lim *api.Limits)) api.Limits {
	lim := wide()
	change(&lim)
	return lim
}

// P2.7: which limit is reached first, and the currents next to it.
func TestMostOut(t *testing.T) {
	warm := cool(func(c *api.Cell) { c.HeatCap = 1000 })
	for _, x := range []struct {
		name    string
		c       api.Cell
		s       api.State
		lim     api.Limits
		ambient int64
		want    numberResult
	}{
		{"the example", model(), half(), api.Limits{Least: 3400000, Most: 4200000, Out: 200000, In: 200000, Hot: 400000}, 300000, numberResult{100000, api.OK}},
		{"the voltage", cool(), half(), with(func(lim *api.Limits) { lim.Least = 3499000 }), 300000, numberResult{1000, api.OK}},
		{"the voltage, rounded", cool(func(c *api.Cell) { c.Cold = curve(0, 900, 400000, 900) }), half(), with(func(lim *api.Limits) { lim.Least = 3499991 }), 300000, numberResult{11, api.OK}},
		{"the voltage for 0", cool(), half(), with(func(lim *api.Limits) { lim.Least = 3500000 }), 300000, numberResult{0, api.OK}},
		{"the voltage is too low", cool(), half(), with(func(lim *api.Limits) { lim.Least = 3500001 }), 300000, numberResult{0, api.ErrLimit}},
		{"the greatest voltage does not matter", cool(), half(), with(func(lim *api.Limits) { lim.Most = -8000000 }), 300000, numberResult{500000, api.OK}},
		{"the current", cool(), half(), with(func(lim *api.Limits) { lim.Out = 499999 }), 300000, numberResult{499999, api.OK}},
		{"no current", cool(), half(), with(func(lim *api.Limits) { lim.Out = 0 }), 300000, numberResult{0, api.OK}},
		{"the current into it does not matter", cool(), half(), with(func(lim *api.Limits) { lim.In = 0 }), 300000, numberResult{500000, api.OK}},
		{"all the charge", cool(), half(), wide(), 300000, numberResult{500000, api.OK}},
		{"the charge less the leak", cool(func(c *api.Cell) { c.Leak = 17 }), half(), wide(), 300000, numberResult{499983, api.OK}},
		{"just the leak", cool(func(c *api.Cell) { c.Leak = 500000 }), half(), wide(), 300000, numberResult{0, api.OK}},
		{"less than the leak", cool(func(c *api.Cell) { c.Leak = 500001 }), half(), wide(), 300000, numberResult{0, api.ErrLimit}},
		{"the heat", warm, half(), with(func(lim *api.Limits) { lim.Hot = 300100 }), 300000, numberResult{10049, api.OK}},
		{"no heat", warm, half(), with(func(lim *api.Limits) { lim.Hot = 300000 }), 300000, numberResult{999, api.OK}},
		{"it is too hot", warm, half(), with(func(lim *api.Limits) { lim.Hot = 299999 }), 300000, numberResult{0, api.ErrLimit}},
		{"it cools enough", cool(func(c *api.Cell) { c.Cool = 1 << 16 }), half(), with(func(lim *api.Limits) { lim.Hot = 5 }), 5, numberResult{500000, api.OK}},
		{"it cools too little", cool(func(c *api.Cell) { c.Cool = 1 << 16 }), half(), with(func(lim *api.Limits) { lim.Hot = 5 }), 6, numberResult{0, api.ErrLimit}},
		{"as hot as can be", warm, api.State{Charge: 1000000, Temp: 400000}, wide(), 400000, numberResult{1000000, api.OK}},
		{"beyond the greatest throughput and age", warm, api.State{Charge: 5, Through: most, Age: most}, wide(), 0, numberResult{5, api.OK}},
		{"empty", cool(), api.State{}, wide(), 0, numberResult{0, api.OK}},
		{"empty, and it leaks", model(), api.State{}, wide(), 0, numberResult{0, api.ErrLimit}},
		{"the greatest current", cool(func(c *api.Cell) { c.Capacity = 1 << 32 }), api.State{Charge: 1 << 32}, wide(), 0, numberResult{1 << 20, api.OK}},
	} {
		if got := numberOf(cell.MostOut(x.c, x.s, x.lim, x.ambient)); got != x.want {
			t.Errorf("%s: %v, not %v", x.name, got, x.want)
		}
	}
}

// P2.7: which limit is reached first, and the currents next to it.
func TestMostIn(t *testing.T) {
	warm := cool(func(c *api.Cell) { c.HeatCap = 1000 })
	worn := cool(func(c *api.Cell) { c.CycleLoss = 1 << 20 })
	old := cool(func(c *api.Cell) { c.AgeLoss, c.Stress = 1<<20, curve(0, 2048, 400000, 2048) })
	for _, x := range []struct {
		name    string
		c       api.Cell
		s       api.State
		lim     api.Limits
		ambient int64
		want    numberResult
	}{
		{"the voltage", cool(), half(), with(func(lim *api.Limits) { lim.Most = 3501000 }), 300000, numberResult{1000, api.OK}},
		{"the voltage, rounded", cool(func(c *api.Cell) { c.Cold = curve(0, 900, 400000, 900) }), half(), with(func(lim *api.Limits) { lim.Most = 3500009 }), 300000, numberResult{10, api.OK}},
		{"the voltage for 0", cool(), half(), with(func(lim *api.Limits) { lim.Most = 3500000 }), 300000, numberResult{0, api.OK}},
		{"the voltage is too high", cool(), half(), with(func(lim *api.Limits) { lim.Most = 3499999 }), 300000, numberResult{0, api.ErrLimit}},
		{"the least voltage does not matter", cool(), half(), with(func(lim *api.Limits) { lim.Least = 8000000 }), 300000, numberResult{500000, api.OK}},
		{"the current", cool(), half(), with(func(lim *api.Limits) { lim.In = 499999 }), 300000, numberResult{499999, api.OK}},
		{"no current", cool(), half(), with(func(lim *api.Limits) { lim.In = 0 }), 300000, numberResult{0, api.OK}},
		{"the current out of it does not matter", cool(), half(), with(func(lim *api.Limits) { lim.Out = 0 }), 300000, numberResult{500000, api.OK}},
		{"all the room", cool(), half(), wide(), 300000, numberResult{500000, api.OK}},
		{"the room and the leak", cool(func(c *api.Cell) { c.Leak = 17 }), half(), wide(), 300000, numberResult{500017, api.OK}},
		{"it leaks all", cool(func(c *api.Cell) { c.Leak = 1 << 20 }), api.State{}, wide(), 300000, numberResult{1 << 20, api.OK}},
		{"full", cool(), api.State{Charge: 1000000}, wide(), 300000, numberResult{0, api.OK}},
		{"the wear of this tick", worn, api.State{Charge: 1000000 - 2000}, wide(), 300000, numberResult{1999, api.OK}},
		{"the wear of this tick, and that before", worn, api.State{Charge: 1000000 - 2000, Through: 1023}, wide(), 300000, numberResult{1998, api.OK}},
		{"full, with room for the wear", worn, api.State{Charge: 1000000, Through: 1023}, wide(), 300000, numberResult{0, api.OK}},
		{"full, and older by this tick", old, api.State{Charge: 1000000}, wide(), 300000, numberResult{0, api.ErrLimit}},
		{"nearly full, and older by this tick", old, api.State{Charge: 1000000 - 2}, wide(), 300000, numberResult{0, api.OK}},
		{"almost full, and older by this tick", old, api.State{Charge: 1000000 - 5}, wide(), 300000, numberResult{3, api.OK}},
		{"the heat", warm, half(), with(func(lim *api.Limits) { lim.Hot = 300100 }), 300000, numberResult{10049, api.OK}},
		{"it is too hot", warm, half(), with(func(lim *api.Limits) { lim.Hot = 299999 }), 300000, numberResult{0, api.ErrLimit}},
		{"it cools enough", cool(func(c *api.Cell) { c.Cool = 1 << 16 }), half(), with(func(lim *api.Limits) { lim.Hot = 5 }), 5, numberResult{500000, api.OK}},
		{"it cools too little", cool(func(c *api.Cell) { c.Cool = 1 << 16 }), half(), with(func(lim *api.Limits) { lim.Hot = 5 }), 6, numberResult{0, api.ErrLimit}},
		{"beyond the greatest throughput and age", cool(), api.State{Charge: 5, Through: most, Age: most}, wide(), 0, numberResult{999995, api.OK}},
		{"used up", worn, api.State{Charge: 1, Through: most, Age: most}, wide(), 0, numberResult{0, api.OK}},
		{"the greatest current", cool(func(c *api.Cell) { c.Capacity = 1 << 32 }), api.State{}, wide(), 0, numberResult{1 << 20, api.OK}},
	} {
		if got := numberOf(cell.MostIn(x.c, x.s, x.lim, x.ambient)); got != x.want {
			t.Errorf("%s: %v, not %v", x.name, got, x.want)
		}
	}
}

// drawTight draws limits that are near to a voltage and to a temperature.
func drawTight(r *rand.Rand, volt, temp int64) api.Limits {
	lim := drawLimits(r)
	if r.Intn(4) > 0 {
		lim.Least = into(volt-drawFrom(r, -1, 1<<21), -1<<23, 1<<23)
		lim.Most = into(volt+drawFrom(r, -1, 1<<21), lim.Least, 1<<23)
	}
	if r.Intn(4) > 0 {
		lim.Hot = into(temp+drawFrom(r, -1, 1<<15), 0, 400000)
	}
	return lim
}

// checkGreatest checks that a result is the greatest safe current up to a limit, where all lesser ones are safe: some of these are looked at.
func checkGreatest(t *testing.T, r *rand.Rand, got numberResult, limit int64, safe func(current int64) bool) bool {
	t.Helper()
	if got.errno != api.OK {
		return got == (numberResult{errno: api.ErrLimit}) && !safe(0)
	}
	good := safe(0) && safe(got.number) && 0 <= got.number && got.number <= limit && (got.number == limit || !safe(got.number+1))
	for range 5 {
		good = good && safe(drawFrom(r, 0, got.number))
	}
	return good
}

// P2.7, P2.17: cells and limits that are drawn: what is returned is safe, each lesser current too, and the next one is not.
func TestMostThatIsDrawn(t *testing.T) {
	r := chance(4)
	found := 0
	for range 10000 {
		c, ambient := drawCell(r), drawFrom(r, 0, 400000)
		s := drawState(r, c)
		m := modelOf(c, s)
		lim := drawTight(r, m.voltage(0), m.next(api.Input{Ambient: ambient}).Temp)
		out, in := numberOf(cell.MostOut(c, s, lim, ambient)), numberOf(cell.MostIn(c, s, lim, ambient))
		if !checkGreatest(t, r, out, lim.Out, func(current int64) bool { return m.safeOut(current, lim, ambient) }) {
			t.Errorf("MostOut of %v, %v, %v, %d: %v", c, s, lim, ambient, out)
		}
		if !checkGreatest(t, r, in, lim.In, func(current int64) bool { return m.safeIn(current, lim, ambient) }) {
			t.Errorf("MostIn of %v, %v, %v, %d: %v", c, s, lim, ambient, in)
		}
		if out.number > 0 && out.number < lim.Out {
			found++
		}
		if in.number > 0 && in.number < lim.In {
			found++
		}
	}
	if found < 1000 {
		t.Errorf("only %d limits were reached", found)
	}
}

// P2.7, P2.17: small limits: each current is looked at.
func TestMostOfAll(t *testing.T) {
	r := chance(5)
	for range 300 {
		c, ambient := drawCell(r), drawFrom(r, 0, 400000)
		c.Cold, c.Capacity, c.HeatCap = curve(0, 100000, 400000, 1000000), 1+r.Int63n(500), 1+r.Int63n(1000)
		s := drawState(r, c)
		m := modelOf(c, s)
		lim := drawTight(r, m.voltage(0), m.next(api.Input{Ambient: ambient}).Temp)
		lim.Out, lim.In = r.Int63n(300), r.Int63n(300)
		var out, in int64 = -1, -1
		for out < lim.Out && m.safeOut(out+1, lim, ambient) {
			out++
		}
		for in < lim.In && m.safeIn(in+1, lim, ambient) {
			in++
		}
		for name, x := range map[string]struct {
			got  numberResult
			want int64
		}{"MostOut": {numberOf(cell.MostOut(c, s, lim, ambient)), out}, "MostIn": {numberOf(cell.MostIn(c, s, lim, ambient)), in}} {
			want := numberResult{number: x.want}
			if x.want < 0 {
				want = numberResult{errno: api.ErrLimit}
			}
			if x.got != want {
				t.Errorf("%s of %v, %v, %v, %d: %v, not %v", name, c, s, lim, ambient, x.got, want)
			}
		}
	}
}

// P2.7: the errors of limits, and of ambient temperatures, in this order.
func TestMostErrors(t *testing.T) {
	check := func(s api.State, lim api.Limits, ambient int64, want api.Errno) {
		t.Helper()
		for name, call := range map[string]func(api.Cell, api.State, api.Limits, int64) (int64, api.Errno){"MostOut": cell.MostOut, "MostIn": cell.MostIn} {
			got := numberOf(call(model(), s, lim, ambient))
			if got.errno != want || want != api.OK && got.number != 0 {
				t.Errorf("%s of %v, %v, %d: %v", name, s, lim, ambient, got)
			}
		}
	}
	for _, lim := range wildLimits() {
		check(half(), lim, 300000, api.ErrArg)
		check(half(), lim, -1, api.ErrArg)
		check(api.State{}, lim, 400001, api.ErrArg)
		check(api.State{Charge: -1}, lim, -1, api.ErrRange)
	}
	for _, ambient := range append(wildNumbers(), -1, 400001) {
		check(half(), wide(), ambient, api.ErrRange)
		check(half(), api.Limits{}, ambient, api.ErrRange) // that 0 is not safe is found later
	}
	for _, lim := range []api.Limits{wide(), {Least: -1 << 23, Most: -1 << 23}, {Least: 1 << 23, Most: 1 << 23}, {Most: 1 << 23}, {Out: 1 << 20}, {In: 1 << 20}, {Hot: 400000}} {
		for _, ambient := range []int64{0, 400000} {
			_, out := cell.MostOut(model(), half(), lim, ambient)
			_, in := cell.MostIn(model(), half(), lim, ambient)
			if out != api.OK && out != api.ErrLimit || in != api.OK && in != api.ErrLimit {
				t.Errorf("%v, %d: %d, %d", lim, ambient, out, in)
			}
		}
	}
}

// P2.11: which limit is reached first, and the currents next to it.
func TestSafeOut(t *testing.T) {
	none := make([]api.Span, 7)
	point := points(500000, 0, 300000, 0, 0)
	here := span(300000, 300000)
	wider := func(i int, s api.Span, b []api.Span) []api.Span {
		changed := append([]api.Span{}, b...)
		changed[i] = s
		return changed
	}
	warm := cool(func(c *api.Cell) { c.HeatCap = 1000 })
	hot := with(func(lim *api.Limits) { lim.Hot = 300100 })
	least := with(func(lim *api.Limits) { lim.Least = 3499000 })
	for _, x := range []struct {
		name    string
		c       api.Cell
		tol     []api.Span
		box     []api.Span
		lim     api.Limits
		ambient api.Span
		want    numberResult
	}{
		{"a point", model(), none, point, api.Limits{Least: 3400000, Most: 4200000, Out: 200000, In: 200000, Hot: 400000}, here, numberResult{100000, api.OK}},
		{"the voltage", cool(), none, point, least, here, numberResult{1000, api.OK}},
		{"the relaxation", cool(), none, wider(1, span(-500, 400), point), least, here, numberResult{600, api.OK}},
		{"the shift", cool(), wider(1, span(-100, 400), none), point, least, here, numberResult{900, api.OK}},
		{"the resistance", cool(), wider(2, span(-500, 1000), none), point, least, here, numberResult{500, api.OK}},
		{"the voltage for 0", cool(), none, wider(1, span(0, 1000), point), least, here, numberResult{0, api.OK}},
		{"the voltage is too low", cool(), none, wider(1, span(0, 1001), point), least, here, numberResult{0, api.ErrLimit}},
		{"the greatest voltage does not matter", cool(), none, point, with(func(lim *api.Limits) { lim.Most = -8000000 }), here, numberResult{500000, api.OK}},
		{"the current", cool(), none, point, with(func(lim *api.Limits) { lim.Out = 499999 }), here, numberResult{499999, api.OK}},
		{"no current", cool(), none, point, with(func(lim *api.Limits) { lim.Out = 0 }), here, numberResult{0, api.OK}},
		{"the current into it does not matter", cool(), none, point, with(func(lim *api.Limits) { lim.In = 0 }), here, numberResult{500000, api.OK}},
		{"the least charge", cool(), none, wider(0, span(300000, 600000), point), wide(), here, numberResult{300000, api.OK}},
		{"the greatest leak", cool(func(c *api.Cell) { c.Leak = 20 }), wider(4, span(-20, 7), none), point, wide(), here, numberResult{499973, api.OK}},
		{"just the leak", cool(), wider(4, span(0, 500000), none), point, wide(), here, numberResult{0, api.OK}},
		{"less than the leak", cool(), wider(4, span(0, 500001), none), point, wide(), here, numberResult{0, api.ErrLimit}},
		{"more charge than fits", cool(), none, wider(0, span(1<<32, 1<<32), point), wide(), here, numberResult{1 << 20, api.OK}},
		{"the heat", warm, none, point, hot, here, numberResult{10049, api.OK}},
		{"the heat and the temperature", warm, none, wider(2, span(200000, 300010), point), hot, here, numberResult{9539, api.OK}},
		{"the heat and less capacity for it", warm, wider(5, span(-500, 500), none), point, hot, here, numberResult{7141, api.OK}},
		{"it is too hot", warm, none, wider(2, span(0, 300101), point), hot, here, numberResult{0, api.ErrLimit}},
		{"it is just not too hot", warm, none, wider(2, span(0, 300100), point), hot, here, numberResult{999, api.OK}},
		{"it cools enough", cool(func(c *api.Cell) { c.Cool = 1 << 16 }), none, point, with(func(lim *api.Limits) { lim.Hot = 5 }), span(0, 5), numberResult{500000, api.OK}},
		{"it cools too little", cool(func(c *api.Cell) { c.Cool = 1 << 16 }), none, point, with(func(lim *api.Limits) { lim.Hot = 5 }), span(0, 6), numberResult{0, api.ErrLimit}},
		{"perhaps it does not cool", cool(), wider(6, span(0, 1<<16), none), point, with(func(lim *api.Limits) { lim.Hot = 299999 }), span(0, 6), numberResult{0, api.ErrLimit}},
		{"beyond the greatest throughput and age", warm, none, points(5, 0, 0, most, most), wide(), span(0, 400000), numberResult{5, api.OK}},
	} {
		if got := numberOf(cell.SafeOut(x.c, x.tol, x.box, x.lim, x.ambient)); got != x.want {
			t.Errorf("%s: %v, not %v", x.name, got, x.want)
		}
	}
}

// P2.11: boxes and limits that are drawn: what is returned is safe, each lesser current too, and the next one is not.
func TestSafeOutThatIsDrawn(t *testing.T) {
	r := chance(6)
	found := 0
	for range 10000 {
		c := drawCell(r)
		tol, b, ambient := drawTolerances(r, c), drawBox(r), drawSpan(r, 0, 400000)
		x := boxOf(c, tol, b)
		lim := drawTight(r, x.volts(span(0, 0)).Lo, x.temps(span(0, 0), ambient).Hi)
		got := numberOf(cell.SafeOut(c, tol, b, lim, ambient))
		if !checkGreatest(t, r, got, lim.Out, func(current int64) bool { return x.safe(current, lim, ambient) }) {
			t.Errorf("SafeOut of %v, %v, %v, %v, %v: %v", c, tol, b, lim, ambient, got)
		}
		if got.number > 0 && got.number < lim.Out {
			found++
		}
	}
	if found < 300 {
		t.Errorf("only %d limits were reached", found)
	}
}
