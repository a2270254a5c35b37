package estimate_test

import (
	"math/rand"
	"slices"
	"testing"

	"coulomb/api"
	"coulomb/cell"
	"coulomb/estimate"
)

// P3.4: watches within the limits, and others.
func TestCheck(t *testing.T) {
	for _, change := range []func(w *api.Watch){
		func(w *api.Watch) {},
		func(w *api.Watch) { w.Delay = 16 },
		func(w *api.Watch) { w.Currents = span(-1<<20, 1<<20) },
		func(w *api.Watch) { w.Currents = span(1<<20, 1<<20) },
		func(w *api.Watch) { w.Ambients = span(0, 400000) },
		func(w *api.Watch) { w.Ambients = span(400000, 400000) },
		func(w *api.Watch) { w.Box = stateRanges() },
		func(w *api.Watch) { w.Box = points(1<<32, 1<<23, 400000, most, most) },
		func(w *api.Watch) { w.Tol[0], w.Tol[4] = span(-999999, 1<<32-1000000), span(-10, 1<<20-10) },
		func(w *api.Watch) {
			w.Sensors = [4]api.Sensor{exact(), plain(), {Step: 1}, {Noise: 1 << 30, Step: 1 << 30}}
		},
	} {
		w := watch(change)
		if e := estimate.Check(w); e != api.OK {
			t.Errorf("Check of %v: %d", w, e)
		}
		x := watcher(t, w)
		if !slices.Equal(x.Box(), w.Box) || x.Taken() != 0 || x.Lost() {
			t.Errorf("a watcher of %v: %v, %d, %t", w, x.Box(), x.Taken(), x.Lost())
		}
	}
	for _, w := range wildWatches() {
		if e := estimate.Check(w); e != api.ErrArg {
			t.Errorf("Check of %v: %d", w, e)
		}
		if x, e := estimate.NewWatcher(w); x != nil || e != api.ErrArg {
			t.Errorf("NewWatcher of %v: %v, %d", w, x, e)
		}
	}
}

// P3.5, P3.6: the example of the chapter.
func TestTakeExample(t *testing.T) {
	w := watcher(t, watch())
	if e := w.Take(both(volt(3490000), current(10000))); e != api.OK {
		t.Fatalf("Take: %d", e)
	}
	// the span of the current is 9850 to 10149
	want := box(488194, 491803, 2462, 2537, 300097, 300103, 9850, 10149, 1, 1)
	if got := w.Box(); !slices.Equal(got, want) || w.Taken() != 1 || w.Lost() {
		t.Errorf("%v, %d, %t", got, w.Taken(), w.Lost())
	}
	if e := w.Take(volt(2000000)); e != api.ErrLost || !w.Lost() || w.Taken() != 1 || !slices.Equal(w.Box(), want) {
		t.Errorf("a voltage that is not possible: %d, %v", e, w.Box())
	}
}

// sharp is a watch with sensors without noise, a box that is wider, and a cell that keeps its state if no current flows.
func sharp(changes ...func(w *api.Watch)) api.Watch {
	w := watch(func(w *api.Watch) {
		w.Cell = model(func(c *api.Cell) { c.Keep, c.Pair, c.Leak, c.Stress = 65536, 0, 0, curve(0, 0, 400000, 0) })
		w.Sensors = [4]api.Sensor{exact(), exact(), exact(), exact()}
		w.Box = box(400000, 600000, -1000, 2000, 290000, 310000, 0, 0, 0, 0)
		w.Currents, w.Ambients = span(0, 0), span(280000, 320000)
	})
	for _, change := range changes {
		change(&w)
	}
	return w
}

// P3.5: what each sensor cuts.
func TestWhatIsCut(t *testing.T) {
	widths := func(ends ...int64) []api.Span { return append(box(ends...), make([]api.Span, 2)...) }
	cold := func(w *api.Watch) { w.Cell.Cold = curve(0, 0, 400000, 400000) }
	steady := func(x int64) func(w *api.Watch) {
		return func(w *api.Watch) { w.Box[1], w.Currents, w.Cell.HeatCap = span(0, 0), span(x, x), most }
	}
	for _, x := range []struct {
		name string
		w    api.Watch
		r    api.Reading
		want []api.Span
	}{
		{"nothing", sharp(), api.Reading{}, widths(400000, 600000, -1000, 2000, 290000, 310000)},
		{"no values", sharp(), api.Reading{Value: [4]int64{-1 << 40, 5, -7, 1 << 62}}, widths(400000, 600000, -1000, 2000, 290000, 310000)},
		// an open voltage of from 3,499,000 to 3,502,000
		{"a voltage", sharp(), volt(3500000), widths(499009, 502014, -992, 1998, 290000, 310000)},
		{"a voltage at the first charges", sharp(), volt(3399000), widths(400000, 401016, 993, 2000, 290000, 310000)},
		{"the first charge", sharp(), volt(3397993), widths(400000, 400009, 2000, 2000, 290000, 310000)},
		{"the last charge", sharp(), volt(3600990), widths(599991, 600000, -1000, -1000, 290000, 310000)},
		{"a temperature", sharp(), temp(300000), widths(400000, 600000, -1000, 2000, 300000, 300000)},
		{"a temperature at an end", sharp(), temp(290000), widths(400000, 600000, -1000, 2000, 290000, 290000)},
		{"an ambient temperature", sharp(func(w *api.Watch) { w.Cell.Cool = 65536 }), ambient(285000), widths(400000, 600000, -1000, 2000, 285000, 285000)},
		{"no ambient temperature", sharp(func(w *api.Watch) { w.Cell.Cool = 65536 }), api.Reading{}, widths(400000, 600000, -1000, 2000, 280000, 320000)},
		{"ambient temperatures beyond those of the watch", sharp(func(w *api.Watch) {
			w.Cell.Cool, w.Sensors[3] = 65536, api.Sensor{Noise: 10000, Step: 1, Most: 400000}
		}), ambient(285000), widths(400000, 600000, -1000, 2000, 280000, 295000)},
		// the resistance is from 90,000 to 110,000, or just 100,000
		{"a voltage and no temperature", sharp(cold, steady(1000)), volt(3400000), append(box(489006, 509009, 0, 0, 290000, 310000), span(1000, 1000), span(0, 0))},
		{"a voltage and a temperature", sharp(cold, steady(1000)), both(volt(3400000), temp(300000)), append(box(499000, 499015, 0, 0, 300000, 300000), span(1000, 1000), span(0, 0))},
		// the relaxation is cut by the charges that are left
		{"one charge", sharp(func(w *api.Watch) { w.Box[0] = span(500000, 500000) }), volt(3499500), widths(500000, 500000, 500, 500, 290000, 310000)},
		{"one relaxation", sharp(func(w *api.Watch) { w.Box[1] = span(500, 500) }), volt(3499500), widths(500000, 500015, 500, 500, 290000, 310000)},
	} {
		w := watcher(t, x.w)
		if e := w.Take(x.r); e != api.OK || !slices.Equal(w.Box(), x.want) || w.Taken() != 1 {
			t.Errorf("%s: %d, %v, not %v", x.name, e, w.Box(), x.want)
		}
	}
}

// P3.5: the current of a reading meets those of the watch.
func TestCurrentOfAReading(t *testing.T) {
	noisy := func(w *api.Watch) {
		w.Currents, w.Sensors[1] = span(-500, 700), api.Sensor{Noise: 90, Step: 20, Least: -1000, Most: 600}
		w.Cell.CycleLoss, w.Cell.Keep, w.Cell.Pair = 0, 0, 1000
	}
	for _, x := range []struct {
		r    api.Reading
		want api.Span
	}{
		{api.Reading{}, span(-500, 700)}, {current(0), span(-100, 99)}, {current(600), span(500, 700)}, {current(-500), span(-500, -401)}, {current(-580), span(-500, -481)}, {current(-1000), span(0, 0)}, {current(100), span(0, 199)},
	} {
		w := watcher(t, sharp(noisy))
		e := w.Take(x.r)
		if x.want == (api.Span{}) {
			if e != api.ErrLost {
				t.Errorf("Take of %v: %d", x.r, e)
			}
			continue
		}
		if b := w.Box(); e != api.OK || b[1] != x.want || b[0] != span(400000-x.want.Hi, 600000-x.want.Lo) {
			t.Errorf("Take of %v: %d, %v", x.r, e, b)
		}
	}
}

// P3.5, P3.6: what makes a watcher lost, and what it returns then.
func TestLost(t *testing.T) {
	for name, x := range map[string]struct {
		w api.Watch
		r api.Reading
	}{
		"a current that is not in the span":              {sharp(), current(1)},
		"an ambient temperature that is not in the span": {sharp(), ambient(320001)},
		"a temperature that is not in the box":           {sharp(), temp(289999)},
		"a voltage above all":                            {sharp(), volt(3601000 + 10000)},
		"a voltage below all":                            {sharp(), volt(3398000 - 10000)},
		"a voltage just above all":                       {sharp(), volt(3600991)},
		"a voltage just below all":                       {sharp(), volt(3397992)},
		"a voltage between those of two charges":         {sharp(func(w *api.Watch) { w.Cell.Ocv, w.Box[1] = curve(0, 0, 65536, 1<<23), span(0, 0) }), volt(5000001)},
		"all at once":                                    {sharp(), api.Reading{Has: [4]bool{true, true, true, true}, Value: [4]int64{1, 1, 1, 1}}},
		"lost before it is beyond the limits":            {sharp(func(w *api.Watch) { w.Box[3], w.Currents = span(most, most), span(1, 1) }), current(0)},
	} {
		w := watcher(t, x.w)
		for i, r := range []api.Reading{x.r, x.r, {}, volt(1 << 31)} { // an error of the last one comes later
			if e := w.Take(r); e != api.ErrLost || !w.Lost() || w.Taken() != 0 || !slices.Equal(w.Box(), x.w.Box) {
				t.Errorf("%s, reading %d: %d, %t, %d, %v", name, i, e, w.Lost(), w.Taken(), w.Box())
			}
		}
		c := w.Copy()
		if e := c.Take(api.Reading{}); e != api.ErrLost || !c.Lost() || c.Taken() != 0 || !slices.Equal(c.Box(), x.w.Box) {
			t.Errorf("%s: the copy: %d, %t, %d, %v", name, e, c.Lost(), c.Taken(), c.Box())
		}
	}
}

// P3.6, P3.7: a lost watcher still tells what it knew.
func TestLostWatcherTells(t *testing.T) {
	change := func(w *api.Watch) { w.Delay, w.Box[3], w.Currents = 3, span(5000, 90000), span(-10, 20) }
	w, p := watcher(t, sharp(change)), plainWatcher{w: sharp(change)}
	for _, r := range []api.Reading{volt(3500000), {}, temp(0)} {
		if e, want := w.Take(r), p.take(r); e != want {
			t.Errorf("Take: %d, not %d", e, want)
		}
	}
	if !w.Lost() || w.Taken() != 2 {
		t.Errorf("%t, %d", w.Lost(), w.Taken())
	}
	checkTold(t, w, &p, api.Limits{Most: 1 << 23, Out: 1 << 20, Hot: 400000})
}

// checkTold compares all that a watcher tells with what it has to tell.
func checkTold(t *testing.T, w *estimate.Watcher, p *plainWatcher, l api.Limits) {
	t.Helper()
	if !slices.Equal(w.Box(), p.w.Box) || w.Taken() != p.taken || w.Lost() != p.lost {
		t.Errorf("%v, %d, %t, not %v, %d, %t", w.Box(), w.Taken(), w.Lost(), p.w.Box, p.taken, p.lost)
	}
	now, e := p.now()
	if got, e2 := w.Now(); e != e2 || !slices.Equal(got, now) {
		t.Errorf("the box of now: %v, %d, not %v, %d", got, e2, now, e)
	}
	if got, want := of(w.Fill()), of(cell.FillBox(p.w.Cell, p.w.Tol, p.w.Box)); got != want || want.errno != api.OK {
		t.Errorf("the fill: %v, not %v", got, want)
	}
	if got, want := of(w.Health()), good(p.health()); got != want {
		t.Errorf("the health: %v, not %v", got, want)
	}
	want := bad[int64](e)
	if e == api.OK {
		want = of(cell.SafeOut(p.w.Cell, p.w.Tol, now, l, p.w.Ambients))
	}
	if got := of(w.Power(l)); got != want {
		t.Errorf("the power within %v: %v, not %v", l, got, want)
	}
}

// P3.5: readings that are not possible change nothing.
func TestImpossibleReadings(t *testing.T) {
	w := watcher(t, watch())
	for _, r := range []api.Reading{
		volt(3490001), volt(5001000), volt(-1000), volt(1 << 62), volt(-1 << 63), current(10050), current(30100), temp(-1), temp(400001), ambient(-1), ambient(400001), ambient(1<<63 - 1),
		both(volt(2000000), current(50)), both(current(30000), ambient(-1)), both(temp(5), ambient(400001)), // the others would make it lost
	} {
		if e := w.Take(r); e != api.ErrArg || w.Lost() || w.Taken() != 0 || !slices.Equal(w.Box(), watch().Box) {
			t.Errorf("Take of %v: %d, %t, %d, %v", r, e, w.Lost(), w.Taken(), w.Box())
		}
	}
	r := both(volt(3490000), current(10000))
	r.Value[api.Temp], r.Value[api.Ambient] = -1, 1<<63-1 // these sensors show nothing
	if e := w.Take(r); e != api.OK || w.Taken() != 1 {
		t.Errorf("Take of %v: %d, %d", r, e, w.Taken())
	}
}

// P3.5, P3.6, P3.7, R1, R2: what is beyond the limits changes nothing.
func TestTakeBeyond(t *testing.T) {
	over := sharp(func(w *api.Watch) {
		w.Box[3], w.Currents, w.Delay, w.Sensors[1].Noise = span(most-500, most-100), span(0, 200), 1, 10
		w.Cell.CycleLoss = 0
	})
	w := watcher(t, over)
	for _, r := range []api.Reading{{}, volt(3500000), both(current(91), temp(300000))} {
		if e := w.Take(r); e != api.ErrOver || w.Lost() || w.Taken() != 0 || !slices.Equal(w.Box(), over.Box) {
			t.Errorf("Take of %v: %d, %t, %d, %v", r, e, w.Lost(), w.Taken(), w.Box())
		}
	}
	if b, e := w.Now(); e != api.ErrOver || len(b) != 0 {
		t.Errorf("Now: %v, %d", b, e)
	}
	for _, l := range []api.Limits{{Most: 1 << 23, Out: 5, Hot: 400000}, {Out: -1}, {Least: 1 << 23, Most: 1 << 23}} { // its errors come later
		if got := of(w.Power(l)); got != bad[int64](api.ErrOver) {
			t.Errorf("Power within %v: %v", l, got)
		}
	}
	if got := of(w.Fill()); got != good(span(26214, 39321)) {
		t.Errorf("Fill: %v", got)
	}
	if e := w.Take(current(90)); e != api.OK || w.Taken() != 1 || w.Box()[3] != span(most-420, most) {
		t.Errorf("Take that reaches the limit: %d, %v", e, w.Box())
	}
	old := watcher(t, sharp(func(w *api.Watch) { w.Box[4], w.Cell.Stress = span(0, most), curve(0, 1, 400000, 1) }))
	if e := old.Take(api.Reading{}); e != api.ErrOver || old.Lost() {
		t.Errorf("Take of one that is too old: %d, %t", e, old.Lost())
	}
}

// P3.6: Now is as many steps further as readings are late; its error is that of the first step that has one.
func TestNow(t *testing.T) {
	late := func(n int) api.Watch {
		return sharp(func(w *api.Watch) {
			w.Cell.CycleLoss, w.Currents, w.Delay, w.Box[3] = 0, span(-10, 100), n, span(0, most-900)
		})
	}
	for n := range 17 {
		w := watcher(t, late(n))
		b, e := w.Now()
		if n > 9 {
			if e != api.ErrOver || len(b) != 0 {
				t.Errorf("a delay of %d: %v, %d", n, b, e)
			}
			continue
		}
		x := int64(n)
		if e != api.OK || len(b) != 5 || b[0] != span(400000-100*x, 600000+10*x) || b[3] != span(0, most-900+100*x) {
			t.Errorf("a delay of %d: %v, %d", n, b, e)
		}
		if !slices.Equal(w.Box(), late(n).Box) {
			t.Errorf("Now has changed the box: %v", w.Box())
		}
	}
}

// P3.7: the health and the fill of boxes.
func TestHealthAndFill(t *testing.T) {
	for _, x := range []struct {
		name         string
		change       func(w *api.Watch)
		health, fill api.Span
	}{
		{"a new cell", func(w *api.Watch) {}, span(65536, 65536), span(26214, 39321)},
		{"used", func(w *api.Watch) { w.Box[3] = span(1024*1000, 1024*250000) }, span(49152, 65470), span(26240, 52428)},
		{"old", func(w *api.Watch) { w.Cell.AgeLoss, w.Box[4] = 1<<20, span(1024*1000, 1024*250000) }, span(49152, 65470), span(26240, 52428)},
		{"used up", func(w *api.Watch) { w.Box[3] = span(0, most) }, span(0, 65536), span(26214, 65536)},
		{"nearly used up", func(w *api.Watch) { w.Box[3] = span(1024*999999, 1024*1000000) }, span(0, 0), span(65536, 65536)},
		{"less capacity", func(w *api.Watch) { w.Tol[0], w.Box[3] = span(-500000, 1000000), span(0, 1024*250000) }, span(32768, 65536), span(13107, 65536)},
		{"other tolerances", func(w *api.Watch) { w.Tol = box(0, 0, -9, 9, -9, 9, -9, 9, -9, 9, -9, 9, 0, 9) }, span(65536, 65536), span(26214, 39321)},
	} {
		w := watcher(t, watch(x.change))
		if got := of(w.Health()); got != good(x.health) {
			t.Errorf("%s: the health: %v", x.name, got)
		}
		if got := of(w.Fill()); got != good(x.fill) {
			t.Errorf("%s: the fill: %v", x.name, got)
		}
	}
}

// P3.7: the power is that of the box of now, and has the errors of the limits.
func TestPower(t *testing.T) {
	wide := api.Limits{Least: -1 << 23, Most: 1 << 23, Out: 1 << 20, Hot: 400000}
	for _, x := range []struct {
		name   string
		change func(w *api.Watch)
		l      api.Limits
		want   result[int64]
	}{
		{"all the charge", func(w *api.Watch) { w.Cell.HeatCap = most }, wide, good[int64](400000)},
		{"the charge that is left behind the delay", func(w *api.Watch) { w.Cell.HeatCap, w.Delay, w.Currents = most, 3, span(-5, 1000) }, wide, good[int64](397000)},
		{"a leak", func(w *api.Watch) { w.Cell.HeatCap, w.Delay, w.Cell.Leak = most, 3, 20 }, wide, good[int64](400000 - 80)},
		{"the current", func(w *api.Watch) { w.Cell.HeatCap = most }, api.Limits{Most: 1 << 23, Out: 777, Hot: 400000}, good[int64](777)},
		{"the voltage", func(w *api.Watch) { w.Cell.HeatCap, w.Box[1] = most, span(0, 0) }, api.Limits{Least: 3390000, Most: 1 << 23, Out: 1 << 20, Hot: 400000}, good[int64](9993)},
		{"the ambient temperature", func(w *api.Watch) { w.Cell.HeatCap, w.Cell.Cool = most, 65536 }, api.Limits{Most: 1 << 23, Out: 1 << 20, Hot: 319999}, bad[int64](api.ErrLimit)},
		{"the ambient temperature, just", func(w *api.Watch) { w.Cell.HeatCap, w.Cell.Cool = most, 65536 }, api.Limits{Most: 1 << 23, Out: 1 << 20, Hot: 320000}, good[int64](400000)},
		{"a voltage that it does not have", func(w *api.Watch) {}, api.Limits{Least: 3500000, Most: 1 << 23, Hot: 400000}, bad[int64](api.ErrLimit)},
		{"limits that are not possible", func(w *api.Watch) {}, api.Limits{Least: 1, Hot: 400000}, bad[int64](api.ErrArg)},
		{"other limits that are not possible", func(w *api.Watch) {}, api.Limits{Out: -1}, bad[int64](api.ErrArg)},
	} {
		if got := of(watcher(t, sharp(x.change)).Power(x.l)); got != x.want {
			t.Errorf("%s: %v, not %v", x.name, got, x.want)
		}
	}
}

// drawRelated draws a reading: mostly what is shown of a state, and sometimes anything.
func drawRelated(r *rand.Rand, w api.Watch, c api.Cell, s api.State, in api.Input) api.Reading {
	reading := drawReading(r, w, c, s, in)
	for i := range reading.Value {
		switch r.Intn(60) {
		case 0:
			reading.Value[i] = drawFrom(r, -1<<31, 1<<31)
		case 1:
			reading.Value[i] = pick(r, []int64{w.Sensors[i].Least, w.Sensors[i].Most})
		case 2:
			reading.Value[i] += w.Sensors[i].Step * (r.Int63n(9) - 4)
		}
	}
	return reading
}

// P3.5 to P3.7: watches and readings that are drawn, against the steps of the chapter, one by one.
func TestWatchersThatAreDrawn(t *testing.T) {
	r := chance(8)
	counts := map[api.Errno]int{}
	for i := range 1500 {
		w := drawCalm(r)
		if i%3 == 0 {
			w = drawWatch(r)
		}
		if i%4 == 0 { // each charge is looked at
			w.Box[0].Hi = min(w.Box[0].Hi, w.Box[0].Lo+r.Int63n(300))
		}
		c, s, ok := drawMember(r, w)
		if !ok {
			continue
		}
		x, p := watcher(t, w), plainWatcher{w: w}
		for range 8 {
			in := api.Input{Current: drawIn(r, w.Currents), Ambient: drawIn(r, w.Ambients)}
			reading := drawRelated(r, w, c, s, in)
			e, want := x.Take(reading), p.take(reading)
			if e != want {
				t.Errorf("Take of %v by %v: %d, not %d", reading, p.w, e, want)
			}
			counts[e]++
			next, e := cell.Step(c, s, in)
			if e == api.OK {
				s = next
			}
			checkTold(t, x, &p, api.Limits{Least: drawFrom(r, -1<<24, 1<<22), Most: 1 << 23, Out: drawFrom(r, 0, 1<<20), Hot: drawFrom(r, 0, 400000)})
		}
	}
	for _, e := range []api.Errno{api.OK, api.ErrArg, api.ErrLost, api.ErrOver} {
		if counts[e] < 100 {
			t.Errorf("the error %d comes just %d times", e, counts[e])
		}
	}
}
