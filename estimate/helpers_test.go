package estimate_test

import (
	"math"
	"math/rand"
	"slices"
	"testing"

	"coulomb/api"
	"coulomb/cell"
	"coulomb/estimate"
)

const most = api.MaxQuantity

func span(lo, hi int64) api.Span { return api.Span{Lo: lo, Hi: hi} }

func curve(points ...int64) api.Curve {
	var c api.Curve
	for i := 0; i < len(points); i += 2 {
		c.X, c.Y = append(c.X, points[i]), append(c.Y, points[i+1])
	}
	return c
}

func box(ends ...int64) []api.Span {
	var b []api.Span
	for i := 0; i < len(ends); i += 2 {
		b = append(b, span(ends[i], ends[i+1]))
	}
	return b
}

// points is a box of one list of numbers.
func points(l ...int64) []api.Span {
	var b []api.Span
	for _, x := range l {
		b = append(b, span(x, x))
	}
	return b
}

// model is the cell of the examples of layer 2, changed.
func model(changes ...func(c *api.Cell)) api.Cell {
	c := api.Cell{
		Capacity: 1000000, Ocv: curve(0, 3000000, api.Whole, 4000000), Cold: curve(0, 1000, api.MaxTemp, 1000), Pair: 500, Keep: 32768,
		Leak: 10, HeatCap: 1000, Stress: curve(0, 1, api.MaxTemp, 1), CycleLoss: 1048576,
	}
	for _, change := range changes {
		change(&c)
	}
	return c
}

// half is the state of the examples of layer 2.
func half() api.State { return api.State{Charge: 500000, Temp: 300000} }

// plain is the sensor of the chapter's examples.
func plain() api.Sensor { return api.Sensor{Noise: 3, Step: 10, Least: 0, Most: 100} }

// exact is a sensor that shows all readings as they are.
func exact() api.Sensor { return api.Sensor{Step: 1, Least: -api.MaxRead, Most: api.MaxRead} }

// watch is the watch of the chapter's examples, changed.
func watch(changes ...func(w *api.Watch)) api.Watch {
	other := api.Sensor{Step: 1, Most: 400000}
	w := api.Watch{
		Cell: model(), Tol: make([]api.Span, 7), Box: box(400000, 600000, 0, 0, 300000, 300000, 0, 0, 0, 0),
		Sensors:  [4]api.Sensor{{Noise: 1000, Step: 1000, Most: 5000000}, {Noise: 100, Step: 100, Most: 30000}, other, other},
		Currents: span(0, 20000), Ambients: span(300000, 300000),
	}
	for _, change := range changes {
		change(&w)
	}
	return w
}

// watcher returns the watcher of a valid watch.
func watcher(t *testing.T, w api.Watch) *estimate.Watcher {
	t.Helper()
	x, e := estimate.NewWatcher(w)
	if e != api.OK || x == nil {
		t.Fatalf("NewWatcher of %v: %v, %d", w, x, e)
	}
	return x
}

// filter returns the filter of a valid cell, gains and state.
func filter(t *testing.T, c api.Cell, g api.Gains, s api.State) *estimate.Filter {
	t.Helper()
	f, e := estimate.NewFilter(c, g, s)
	if e != api.OK || f == nil {
		t.Fatalf("NewFilter of %v, %v, %v: %v, %d", c, g, s, f, e)
	}
	return f
}

// volt, current, temp and ambient are readings of which just one sensor shows something.
func volt(x int64) api.Reading    { return shows(api.Volt, x) }
func current(x int64) api.Reading { return shows(api.Current, x) }
func temp(x int64) api.Reading    { return shows(api.Temp, x) }
func ambient(x int64) api.Reading { return shows(api.Ambient, x) }

func shows(i int, x int64) api.Reading {
	var r api.Reading
	r.Has[i], r.Value[i] = true, x
	return r
}

// both is a reading in which the sensors of two readings show something.
func both(a, b api.Reading) api.Reading {
	for i, has := range b.Has {
		if has {
			a.Has[i], a.Value[i] = true, b.Value[i]
		}
	}
	return a
}

// result is what a function returns: a value and an error.
type result[T comparable] struct {
	value T
	errno api.Errno
}

// of keeps both results of a call.
func of[T comparable](value T, e api.Errno) result[T] { return result[T]{value, e} }

// good is a value without an error.
func good[T comparable](value T) result[T] { return result[T]{value: value} }

// bad is an error without a value.
func bad[T comparable](e api.Errno) result[T] { return result[T]{errno: e} }

// wildNumbers are beyond every limit.
func wildNumbers() []int64 {
	return []int64{math.MinInt64, math.MinInt64 + 1, -2 * most, -most - 1, most + 1, 2 * most, 1 << 62, math.MaxInt64}
}

// wildSpans are not valid.
func wildSpans() []api.Span {
	l := box(1, 0, 0, -1, most, -most, 0, most+1, -most-1, 0)
	for _, x := range wildNumbers() {
		l = append(l, span(x, x))
	}
	return append(l, span(math.MinInt64, math.MaxInt64), span(math.MaxInt64, math.MinInt64))
}

// wildSensors are not valid.
func wildSensors() []api.Sensor {
	l := []api.Sensor{
		{}, {Step: 0, Most: 100}, {Step: -1, Most: 100}, {Step: 1<<30 + 1, Most: 100}, {Noise: -1, Step: 1}, {Noise: 1<<30 + 1, Step: 1},
		{Step: 1, Least: 1}, {Step: 1, Least: 5, Most: 4}, {Step: 1, Least: 1 << 30, Most: 1<<30 - 1},
		{Step: 1, Least: -1<<30 - 1}, {Step: 1, Most: 1<<30 + 1}, {Step: 1, Least: 1<<30 + 1, Most: 1<<30 + 1}, {Step: 1, Least: -1<<30 - 1, Most: -1<<30 - 1},
	}
	for _, x := range wildNumbers() {
		l = append(l, api.Sensor{Noise: x, Step: 1}, api.Sensor{Step: x}, api.Sensor{Step: 1, Least: x}, api.Sensor{Step: 1, Most: x}, api.Sensor{Step: 1, Least: x, Most: x}, api.Sensor{Noise: x, Step: x, Least: x, Most: x})
	}
	return l
}

// wildCells are not valid.
func wildCells() []api.Cell {
	long := api.Curve{}
	for i := range int64(65) {
		long.X, long.Y = append(long.X, i*1024), append(long.Y, i)
	}
	l := []api.Cell{{}}
	for _, change := range []func(c *api.Cell){
		func(c *api.Cell) { c.Ocv = long },
		func(c *api.Cell) { c.Cold = api.Curve{} },
		func(c *api.Cell) { c.Stress = curve(0, 2, api.MaxTemp, 1) },
		func(c *api.Cell) { c.Capacity = 0 },
		func(c *api.Cell) { c.Capacity = api.MaxCapacity + 1 },
		func(c *api.Cell) { c.HeatCap = 0 },
		func(c *api.Cell) { c.Keep = api.Whole + 1 },
		func(c *api.Cell) { c.Growth = math.MinInt64 },
	} {
		l = append(l, model(change))
	}
	return l
}

// wildStates are not valid for the cell of the examples.
func wildStates() []api.State {
	return []api.State{
		{Charge: -1}, {Charge: 1000001}, {Relax: 1<<23 + 1}, {Relax: -1<<23 - 1}, {Temp: -1}, {Temp: api.MaxTemp + 1}, {Through: -1}, {Through: most + 1}, {Age: -1}, {Age: most + 1},
		{Charge: 1000000, Through: 1024}, {Charge: math.MinInt64, Relax: math.MaxInt64, Temp: math.MaxInt64, Through: math.MaxInt64, Age: math.MinInt64},
	}
}

// stateRanges are the spans that a state box is within.
func stateRanges() []api.Span { return box(0, 1<<32, -1<<23, 1<<23, 0, 400000, 0, most, 0, most) }

// wildBoxes are no state boxes.
func wildBoxes() [][]api.Span {
	inside := func() []api.Span { return box(400000, 600000, -5, 5, 299000, 301000, 0, 7, 0, 9) }
	l := [][]api.Span{nil, {}, inside()[:4], append(inside(), span(0, 0)), make([]api.Span, 9), make([]api.Span, 100)}
	for i, r := range stateRanges() {
		for _, s := range append(wildSpans(), span(r.Lo-1, r.Lo), span(r.Lo-1, r.Hi), span(r.Hi, r.Hi+1), span(r.Lo, r.Hi+1)) {
			b := inside()
			b[i] = s
			l = append(l, b)
		}
	}
	return l
}

// wildWatches are not valid.
func wildWatches() []api.Watch {
	l := []api.Watch{{}}
	add := func(change func(w *api.Watch)) { l = append(l, watch(change)) }
	for _, c := range wildCells() {
		add(func(w *api.Watch) { w.Cell = c })
	}
	for _, tol := range [][]api.Span{
		nil, {}, make([]api.Span, 6), make([]api.Span, 8), box(0, 0, 0, 0, 0, 0, 0, 0, 0, 0, 0, 0, 1, 0), box(-1000000, 0, 0, 0, 0, 0, 0, 0, 0, 0, 0, 0, 0, 0),
		box(0, 0, 0, 0, 0, 0, -501, 0, 0, 0, 0, 0, 0, 0), box(0, 0, 0, 0, 0, 0, 0, 0, 0, 0, 0, 0, 0, 65537), box(0, most+1, 0, 0, 0, 0, 0, 0, 0, 0, 0, 0, 0, 0),
	} {
		add(func(w *api.Watch) { w.Tol = tol })
	}
	for _, b := range wildBoxes() {
		add(func(w *api.Watch) { w.Box = b })
	}
	for i := range 4 {
		for _, s := range wildSensors() {
			add(func(w *api.Watch) { w.Sensors[i] = s })
		}
	}
	for _, n := range []int{-1, 17, 18, 1 << 16, math.MinInt, math.MaxInt} {
		add(func(w *api.Watch) { w.Delay = n })
	}
	for _, s := range append(wildSpans(), span(-1<<20-1, 0), span(0, 1<<20+1), span(-1<<20-1, -1<<20-1), span(1<<20+1, 1<<20+1)) {
		add(func(w *api.Watch) { w.Currents = s })
	}
	for _, s := range append(wildSpans(), span(-1, 0), span(0, 400001), span(-1, -1), span(400001, 400001)) {
		add(func(w *api.Watch) { w.Ambients = s })
	}
	return l
}

// chance draws the same numbers in each run.
func chance(seed int64) *rand.Rand { return rand.New(rand.NewSource(seed)) }

// pick draws one of some values.
func pick[T any](r *rand.Rand, l []T) T { return l[r.Intn(len(l))] }

// drawFrom draws a number from lo to hi: an end, one near to an end or to 0, or any one of a size that is drawn first.
func drawFrom(r *rand.Rand, lo, hi int64) int64 {
	x := r.Int63n(hi - lo + 1)
	switch r.Intn(8) {
	case 0:
		x = 0
	case 1:
		x = hi - lo
	case 2:
		return min(max(r.Int63n(7)-3, lo), hi)
	case 3, 4, 5:
		size := int64(1) << r.Intn(41)
		return min(max(r.Int63n(2*size+1)-size, lo), hi)
	}
	return lo + x
}

// drawSpan draws a span from lo to hi: a point, a small one, or any one.
func drawSpan(r *rand.Rand, lo, hi int64) api.Span {
	a, b := drawFrom(r, lo, hi), drawFrom(r, lo, hi)
	switch r.Intn(4) {
	case 0:
		b = a
	case 1, 2:
		b = min(a+r.Int63n(1<<r.Intn(12)), hi)
	}
	return span(min(a, b), max(a, b))
}

// drawIn draws a number of a span.
func drawIn(r *rand.Rand, s api.Span) int64 { return drawFrom(r, s.Lo, s.Hi) }

// drawCurve draws a curve of a cell.
func drawCurve(r *rand.Rand, width, height int64) api.Curve {
	xs := []int64{0, width}
	for range r.Intn(5) {
		xs = append(xs, r.Int63n(width))
	}
	slices.Sort(xs)
	xs = slices.Compact(xs)
	ys := make([]int64, len(xs))
	for i := range ys {
		ys[i] = drawFrom(r, 0, height)
	}
	slices.Sort(ys)
	return api.Curve{X: xs, Y: ys}
}

// drawCell draws a valid cell.
func drawCell(r *rand.Rand) api.Cell {
	return api.Cell{
		Capacity: drawFrom(r, 1, 1<<32), Ocv: drawCurve(r, 65536, 1<<23), Shift: drawFrom(r, -1<<23, 1<<23), Cold: drawCurve(r, 400000, 1<<20), Extra: drawFrom(r, -1<<20, 1<<20),
		Pair: drawFrom(r, 0, 1<<20), Keep: drawFrom(r, 0, 65536), Leak: drawFrom(r, 0, 1<<20), HeatCap: drawFrom(r, 1, most), Cool: drawFrom(r, 0, 65536),
		Stress: drawCurve(r, 400000, 1<<20), CycleLoss: drawFrom(r, 0, 1<<20), AgeLoss: drawFrom(r, 0, 1<<20), Growth: drawFrom(r, 0, 1<<20),
	}
}

// drawState draws a valid state of a cell.
func drawState(r *rand.Rand, c api.Cell) api.State {
	s := api.State{Relax: drawFrom(r, -1<<23, 1<<23), Temp: drawFrom(r, 0, 400000), Through: drawFrom(r, 0, most), Age: drawFrom(r, 0, most)}
	capacity, _ := cell.Capacity(c, s)
	s.Charge = drawFrom(r, 0, capacity)
	return s
}

// drawTolerances draws tolerances that are possible for a cell.
func drawTolerances(r *rand.Rand, c api.Cell) []api.Span {
	var tol []api.Span
	for _, f := range []struct{ x, lo, hi int64 }{
		{c.Capacity, 1, 1 << 32}, {c.Shift, -1 << 23, 1 << 23}, {c.Extra, -1 << 20, 1 << 20}, {c.Pair, 0, 1 << 20}, {c.Leak, 0, 1 << 20}, {c.HeatCap, 1, most}, {c.Cool, 0, 65536},
	} {
		s := drawSpan(r, max(f.lo-f.x, -most), min(f.hi-f.x, most))
		if r.Intn(3) == 0 {
			s = span(0, 0)
		}
		tol = append(tol, s)
	}
	return tol
}

// drawSensor draws a valid sensor.
func drawSensor(r *rand.Rand) api.Sensor {
	ends := drawSpan(r, -1<<30, 1<<30)
	return api.Sensor{Noise: drawFrom(r, 0, 1<<30), Step: drawFrom(r, 1, 1<<30), Least: ends.Lo, Most: ends.Hi}
}

// drawWatch draws a valid watch of any kind.
func drawWatch(r *rand.Rand) api.Watch {
	c := drawCell(r)
	w := api.Watch{Cell: c, Tol: drawTolerances(r, c), Delay: r.Intn(17), Currents: drawSpan(r, -1<<20, 1<<20), Ambients: drawSpan(r, 0, 400000)}
	for _, s := range stateRanges() {
		w.Box = append(w.Box, drawSpan(r, s.Lo, s.Hi))
	}
	for i := range w.Sensors {
		w.Sensors[i] = drawSensor(r)
	}
	return w
}

// drawCalm draws a watch of a cell with tolerances in which sensors tell something, and little is brought into a range.
func drawCalm(r *rand.Rand) api.Watch {
	c := model(func(c *api.Cell) { c.Cold, c.Stress = drawCurve(r, 400000, 5000), drawCurve(r, 400000, 50) })
	c.Cool, c.Growth, c.AgeLoss = r.Int63n(1000), r.Int63n(100000), r.Int63n(100000)
	w := api.Watch{Cell: c, Delay: r.Intn(4)}
	for i, width := range []int64{5000, 20000, 100, 400, 9, 900, 500} {
		lo := -r.Int63n(width)
		if i == 6 {
			lo = 0
		}
		w.Tol = append(w.Tol, span(lo, lo+r.Int63n(width)))
	}
	charge, relax, temp, through, age := r.Int63n(900000), r.Int63n(20000)-10000, 250000+r.Int63n(80000), r.Int63n(1<<26), r.Int63n(1<<20)
	w.Box = box(charge, charge+r.Int63n(100000), relax, relax+r.Int63n(9000), temp, temp+r.Int63n(2000), through, through+r.Int63n(100000), age, age+r.Int63n(1000))
	current, ambient := r.Int63n(20000)-10000, 250000+r.Int63n(80000)
	w.Currents, w.Ambients = span(current, current+r.Int63n(20000)), span(ambient, ambient+r.Int63n(2000))
	for i, size := range []int64{5000, 500, 500, 500} {
		w.Sensors[i] = api.Sensor{Noise: r.Int63n(size), Step: 1 + r.Int63n(size), Least: -1 << 23, Most: 1 << 23}
	}
	if r.Intn(3) == 0 {
		w.Sensors[r.Intn(4)] = drawSensor(r)
	}
	return w
}

// drawMember draws a cell with offsets within the tolerances of a watch, and a valid state of it in the box; ok is false if the draw finds none.
func drawMember(r *rand.Rand, w api.Watch) (member api.Cell, s api.State, ok bool) {
	var offsets, vector []int64
	for _, t := range w.Tol {
		offsets = append(offsets, drawIn(r, t))
	}
	for _, b := range w.Box {
		vector = append(vector, drawIn(r, b))
	}
	member, e := cell.Apply(w.Cell, offsets)
	if e != api.OK {
		return member, s, false
	}
	s, _ = cell.Of(vector)
	capacity, _ := cell.Capacity(member, api.State{Through: s.Through, Age: s.Age})
	s.Charge = max(min(s.Charge, capacity), w.Box[0].Lo)
	return member, s, cell.CheckState(member, s) == api.OK
}

// drawReading draws what the sensors of a watch show of a cell in a state; some of them show nothing.
func drawReading(r *rand.Rand, w api.Watch, c api.Cell, s api.State, in api.Input) api.Reading {
	var noise [4]int64
	for i, x := range w.Sensors {
		noise[i] = drawFrom(r, -x.Noise, x.Noise)
	}
	reading, _ := estimate.Sense(w.Sensors, c, s, in, noise)
	for i := range reading.Has {
		if r.Intn(3) == 0 {
			reading.Has[i], reading.Value[i] = false, r.Int63()-r.Int63()
		}
	}
	return reading
}
