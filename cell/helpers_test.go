package cell_test

import (
	"math"
	"math/rand"
	"slices"

	"coulomb/api"
	"coulomb/cell"
)

const most = api.MaxQuantity

func span(lo, hi int64) api.Span { return api.Span{Lo: lo, Hi: hi} }

func curve(points ...int64) api.Curve {
	var c api.Curve
	for i := 0; i < len(points); i += 2 {
		c.X, c.Y = append(c.X, points[i]), append(c.Y, points[i+1])
	}
	return c
}

func box(ends ...int64) []api.Span {
	var b []api.Span
	for i := 0; i < len(ends); i += 2 {
		b = append(b, span(ends[i], ends[i+1]))
	}
	return b
}

// model is the cell of the chapter's examples, changed.
func model(changes ...func(c *api.Cell)) api.Cell {
	c := api.Cell{
		Capacity: 1000000, Ocv: curve(0, 3000000, api.Whole, 4000000), Cold: curve(0, 1000, api.MaxTemp, 1000), Pair: 500, Keep: 32768,
		Leak: 10, HeatCap: 1000, Stress: curve(0, 1, api.MaxTemp, 1), CycleLoss: 1048576,
	}
	for _, change := range changes {
		change(&c)
	}
	return c
}

// half is the state of the chapter's examples.
func half() api.State { return api.State{Charge: 500000, Temp: 300000} }

// wide are limits that forbid nothing but what fills or empties a cell.
func wide() api.Limits {
	return api.Limits{Least: -api.MaxVolt, Most: api.MaxVolt, Out: api.MaxCurrent, In: api.MaxCurrent, Hot: api.MaxTemp}
}

// numberResult is what a function that returns a number returns.
type numberResult struct {
	number int64
	errno  api.Errno
}

// numberOf keeps both results of a call.
func numberOf(n int64, e api.Errno) numberResult { return numberResult{n, e} }

// stateResult is what a function that returns a state returns.
type stateResult struct {
	state api.State
	errno api.Errno
}

// stateOf keeps both results of a call.
func stateOf(s api.State, e api.Errno) stateResult { return stateResult{s, e} }

// spanResult is what a function that returns a span returns.
type spanResult struct {
	span  api.Span
	errno api.Errno
}

// spanOf keeps both results of a call.
func spanOf(s api.Span, e api.Errno) spanResult { return spanResult{s, e} }

// sameCell reports whether two cells are equal.
func sameCell(a, b api.Cell) bool {
	same := slices.Equal(vectorOf(a), vectorOf(b))
	for _, pair := range [][2]api.Curve{{a.Ocv, b.Ocv}, {a.Cold, b.Cold}, {a.Stress, b.Stress}} {
		same = same && slices.Equal(pair[0].X, pair[1].X) && slices.Equal(pair[0].Y, pair[1].Y)
	}
	return same
}

// vectorOf lists the numbers of a cell: first those with offsets, in their order.
func vectorOf(c api.Cell) []int64 {
	return []int64{c.Capacity, c.Shift, c.Extra, c.Pair, c.Leak, c.HeatCap, c.Cool, c.Keep, c.CycleLoss, c.AgeLoss, c.Growth}
}

// field is a number of a cell, and its range.
type field struct {
	name   string
	of     func(c *api.Cell) *int64
	lo, hi int64
}

// fields are all numbers of a cell: first those with offsets, in their order.
func fields() []field {
	return []field{
		{"Capacity", func(c *api.Cell) *int64 { return &c.Capacity }, 1, 1 << 32},
		{"Shift", func(c *api.Cell) *int64 { return &c.Shift }, -1 << 23, 1 << 23},
		{"Extra", func(c *api.Cell) *int64 { return &c.Extra }, -1 << 20, 1 << 20},
		{"Pair", func(c *api.Cell) *int64 { return &c.Pair }, 0, 1 << 20},
		{"Leak", func(c *api.Cell) *int64 { return &c.Leak }, 0, 1 << 20},
		{"HeatCap", func(c *api.Cell) *int64 { return &c.HeatCap }, 1, most},
		{"Cool", func(c *api.Cell) *int64 { return &c.Cool }, 0, 65536},
		{"Keep", func(c *api.Cell) *int64 { return &c.Keep }, 0, 65536},
		{"CycleLoss", func(c *api.Cell) *int64 { return &c.CycleLoss }, 0, 1 << 20},
		{"AgeLoss", func(c *api.Cell) *int64 { return &c.AgeLoss }, 0, 1 << 20},
		{"Growth", func(c *api.Cell) *int64 { return &c.Growth }, 0, 1 << 20},
	}
}

// curveField is a curve of a cell, and how far it goes.
type curveField struct {
	name          string
	of            func(c *api.Cell) *api.Curve
	width, height int64
}

func curveFields() []curveField {
	return []curveField{
		{"Ocv", func(c *api.Cell) *api.Curve { return &c.Ocv }, 65536, 1 << 23},
		{"Cold", func(c *api.Cell) *api.Curve { return &c.Cold }, 400000, 1 << 20},
		{"Stress", func(c *api.Cell) *api.Curve { return &c.Stress }, 400000, 1 << 20},
	}
}

// stateFields are the numbers of a state but for the Charge, with their ranges.
func stateFields() []struct {
	name   string
	of     func(s *api.State) *int64
	lo, hi int64
} {
	return []struct {
		name   string
		of     func(s *api.State) *int64
		lo, hi int64
	}{
		{"Relax", func(s *api.State) *int64 { return &s.Relax }, -1 << 23, 1 << 23},
		{"Temp", func(s *api.State) *int64 { return &s.Temp }, 0, 400000},
		{"Through", func(s *api.State) *int64 { return &s.Through }, 0, most},
		{"Age", func(s *api.State) *int64 { return &s.Age }, 0, most},
	}
}

// wildNumbers are beyond every limit.
func wildNumbers() []int64 {
	return []int64{math.MinInt64, math.MinInt64 + 1, -2 * most, -most - 1, most + 1, 2 * most, 1 << 62, math.MaxInt64}
}

// wildCells are not valid.
func wildCells() []api.Cell {
	l := []api.Cell{{}}
	for _, f := range fields() {
		for _, x := range append(wildNumbers(), f.lo-1, f.hi+1) {
			l = append(l, model(func(c *api.Cell) { *f.of(c) = x }))
		}
	}
	for _, f := range curveFields() {
		for _, d := range wildCurves(f.width, f.height) {
			l = append(l, model(func(c *api.Cell) { *f.of(c) = d }))
		}
	}
	return l
}

// wildCurves are not the curves of a cell that go from 0 to width, with values from 0 to height.
func wildCurves(width, height int64) []api.Curve {
	l := []api.Curve{
		{}, {X: []int64{0, width}}, {Y: []int64{0, 1}}, {X: []int64{0, width}, Y: []int64{1}}, curve(0, 1), curve(width, 1),
		curve(1, 0, width, 1), curve(-1, 0, width, 1), curve(0, 0, width-1, 1), curve(0, 0, width+1, 1), curve(0, 0, width, 1, width+1, 1), curve(-1, 0, 0, 0, width, 1),
		curve(0, -1, width, 1), curve(0, 0, width, height+1), curve(0, 2, width, 1), curve(0, 0, width, 1, width, 2), curve(0, 0, 5, 3, 4, 4, width, 5), curve(0, 0, 5, 3, 6, 2, width, 5),
		longCurve(65, width), longCurve(1000, width),
	}
	for _, x := range wildNumbers() {
		l = append(l, curve(0, 0, x, 1), curve(x, 0, width, 1), curve(0, x, width, 1), curve(0, 0, width, x), curve(0, 0, x, 1, width, 2), curve(0, 0, 1, x, width, 2))
	}
	return l
}

// longCurve is a curve of n points from 0 to width.
func longCurve(n int, width int64) api.Curve {
	var c api.Curve
	for i := range int64(n) {
		c.X, c.Y = append(c.X, i), append(c.Y, i*i)
	}
	c.X[n-1] = width
	return c
}

// wildTolerances are not 7 valid spans.
func wildTolerances() [][]api.Span {
	l := [][]api.Span{nil, {}, make([]api.Span, 6), make([]api.Span, 8), make([]api.Span, 9), make([]api.Span, 100)}
	for i := range 7 {
		for _, s := range wildSpans() {
			tol := make([]api.Span, 7)
			tol[i] = s
			l = append(l, tol)
		}
	}
	return l
}

// wildSpans are not valid.
func wildSpans() []api.Span {
	l := box(1, 0, 0, -1, most, -most, 0, most+1, -most-1, 0)
	for _, x := range wildNumbers() {
		l = append(l, span(x, x))
	}
	return append(l, span(math.MinInt64, math.MaxInt64), span(math.MaxInt64, math.MinInt64))
}

// impossible are tolerances that are not possible for the cell of the examples, though their spans are valid.
func impossible() [][]api.Span {
	var l [][]api.Span
	c := model()
	for i, f := range fields()[:7] {
		x := *f.of(&c)
		for _, s := range []api.Span{span(f.lo-1-x, 0), span(0, min(f.hi+1-x, most)), span(-most, 0), span(0, most), span(-most, most)} {
			if s.Lo+x >= f.lo && s.Hi+x <= f.hi { // a quantity is not enough to reach the limit
				continue
			}
			tol := make([]api.Span, 7)
			tol[i] = s
			l = append(l, tol)
		}
	}
	return l
}

// halfBox is a state box around the state of the examples.
func halfBox() []api.Span { return box(400000, 600000, -5, 5, 299000, 301000, 0, 7, 0, 9) }

// wildBoxes are no state boxes.
func wildBoxes() [][]api.Span {
	l := [][]api.Span{nil, {}, halfBox()[:4], append(halfBox(), span(0, 0)), make([]api.Span, 9)}
	ranges := box(0, 1<<32, -1<<23, 1<<23, 0, 400000, 0, most, 0, most)
	for i, r := range ranges {
		for _, s := range append(wildSpans(), span(r.Lo-1, r.Lo), span(r.Lo-1, r.Hi), span(r.Hi, r.Hi+1), span(r.Lo, r.Hi+1)) {
			b := halfBox()
			b[i] = s
			l = append(l, b)
		}
	}
	return l
}

// wildInputBoxes are no input boxes.
func wildInputBoxes() [][]api.Span {
	l := [][]api.Span{nil, {}, box(0, 0), box(0, 0, 0, 0, 0, 0)}
	for _, s := range wildCurrents() {
		l = append(l, []api.Span{s, span(0, 0)})
	}
	for _, s := range wildAmbients() {
		l = append(l, []api.Span{span(0, 0), s})
	}
	return l
}

// wildCurrents are no spans of currents.
func wildCurrents() []api.Span {
	return append(wildSpans(), span(-1<<20-1, 0), span(0, 1<<20+1), span(-1<<20-1, -1<<20-1), span(1<<20+1, 1<<20+1))
}

// wildAmbients are no spans of ambient temperatures.
func wildAmbients() []api.Span {
	return append(wildSpans(), span(-1, 0), span(0, 400001), span(-1, -1), span(400001, 400001))
}

// wildLimits are not possible.
func wildLimits() []api.Limits {
	var l []api.Limits
	for _, change := range []func(lim *api.Limits){
		func(lim *api.Limits) { lim.Least = -1<<23 - 1 },
		func(lim *api.Limits) { lim.Most = 1<<23 + 1 },
		func(lim *api.Limits) { lim.Least, lim.Most = 1<<23+1, 1<<23+1 },
		func(lim *api.Limits) { lim.Least, lim.Most = -1<<23-1, -1<<23-1 },
		func(lim *api.Limits) { lim.Least, lim.Most = 1, 0 },
		func(lim *api.Limits) { lim.Out = -1 },
		func(lim *api.Limits) { lim.Out = 1<<20 + 1 },
		func(lim *api.Limits) { lim.In = -1 },
		func(lim *api.Limits) { lim.In = 1<<20 + 1 },
		func(lim *api.Limits) { lim.Hot = -1 },
		func(lim *api.Limits) { lim.Hot = 400001 },
	} {
		lim := wide()
		change(&lim)
		l = append(l, lim)
	}
	for _, x := range wildNumbers() {
		l = append(l, api.Limits{Least: x, Most: x}, api.Limits{Least: x}, api.Limits{Most: x}, api.Limits{Out: x}, api.Limits{In: x}, api.Limits{Hot: x})
	}
	return l
}

// chance draws the same numbers in each run.
func chance(seed int64) *rand.Rand { return rand.New(rand.NewSource(seed)) }

// drawFrom draws a number from lo to hi: an end, one near to an end or to 0, or any one of a size that is drawn first.
func drawFrom(r *rand.Rand, lo, hi int64) int64 {
	x := r.Int63n(hi - lo + 1)
	switch r.Intn(8) {
	case 0:
		x = 0
	case 1:
		x = hi - lo
	case 2:
		return min(max(r.Int63n(7)-3, lo), hi)
	case 3, 4, 5:
		size := int64(1) << r.Intn(41)
		return min(max(r.Int63n(2*size+1)-size, lo), hi)
	}
	return lo + x
}

// drawSpan draws a span from lo to hi: a point, a small one, or any one.
func drawSpan(r *rand.Rand, lo, hi int64) api.Span {
	a, b := drawFrom(r, lo, hi), drawFrom(r, lo, hi)
	switch r.Intn(4) {
	case 0:
		b = a
	case 1, 2:
		b = min(a+r.Int63n(1<<r.Intn(12)), hi)
	}
	return span(min(a, b), max(a, b))
}

// drawPart draws a span inside of another one.
func drawPart(r *rand.Rand, s api.Span) api.Span { return drawSpan(r, s.Lo, s.Hi) }

// drawIn draws a number of a span.
func drawIn(r *rand.Rand, s api.Span) int64 { return drawFrom(r, s.Lo, s.Hi) }

// drawParts draws a box inside of another one.
func drawParts(r *rand.Rand, b []api.Span) []api.Span {
	var l []api.Span
	for _, s := range b {
		l = append(l, drawPart(r, s))
	}
	return l
}

// drawCurve draws a curve of a cell.
func drawCurve(r *rand.Rand, width, height int64) api.Curve {
	xs := []int64{0, width}
	for range r.Intn(5) {
		xs = append(xs, r.Int63n(width))
	}
	slices.Sort(xs)
	xs = slices.Compact(xs)
	ys := make([]int64, len(xs))
	for i := range ys {
		ys[i] = drawFrom(r, 0, height)
	}
	slices.Sort(ys)
	return api.Curve{X: xs, Y: ys}
}

// drawCell draws a valid cell.
func drawCell(r *rand.Rand) api.Cell {
	c := api.Cell{Ocv: drawCurve(r, 65536, 1<<23), Cold: drawCurve(r, 400000, 1<<20), Stress: drawCurve(r, 400000, 1<<20)}
	for _, f := range fields() {
		*f.of(&c) = drawFrom(r, f.lo, f.hi)
	}
	return c
}

// drawState draws a valid state of a cell.
func drawState(r *rand.Rand, c api.Cell) api.State {
	s := api.State{Relax: drawFrom(r, -1<<23, 1<<23), Temp: drawFrom(r, 0, 400000), Through: drawFrom(r, 0, most), Age: drawFrom(r, 0, most)}
	s.Charge = drawFrom(r, 0, modelOf(c, s).capacity())
	return s
}

// drawInput draws a valid input.
func drawInput(r *rand.Rand) api.Input {
	return api.Input{Current: drawFrom(r, -1<<20, 1<<20), Ambient: drawFrom(r, 0, 400000)}
}

// drawLimits draws possible limits.
func drawLimits(r *rand.Rand) api.Limits {
	volts := drawSpan(r, -1<<23, 1<<23)
	return api.Limits{Least: volts.Lo, Most: volts.Hi, Out: drawFrom(r, 0, 1<<20), In: drawFrom(r, 0, 1<<20), Hot: drawFrom(r, 0, 400000)}
}

// drawTolerances draws tolerances that are possible for a cell.
func drawTolerances(r *rand.Rand, c api.Cell) []api.Span {
	var tol []api.Span
	for _, f := range fields()[:7] {
		x := *f.of(&c)
		lo, hi := max(f.lo-x, -most), min(f.hi-x, most)
		s := drawSpan(r, lo, hi)
		if r.Intn(3) == 0 {
			s = span(0, 0)
		}
		tol = append(tol, s)
	}
	return tol
}

// drawBox draws a state box.
func drawBox(r *rand.Rand) []api.Span {
	return []api.Span{drawSpan(r, 0, 1<<32), drawSpan(r, -1<<23, 1<<23), drawSpan(r, 0, 400000), drawSpan(r, 0, most), drawSpan(r, 0, most)}
}

// drawInputBox draws an input box.
func drawInputBox(r *rand.Rand) []api.Span {
	return []api.Span{drawSpan(r, -1<<20, 1<<20), drawSpan(r, 0, 400000)}
}

// drawMember draws a cell with offsets within tolerances, and a state of it in a box; ok is false if that state is not valid for the cell.
func drawMember(r *rand.Rand, c api.Cell, tol, box []api.Span) (member api.Cell, s api.State, ok bool) {
	var offsets, vector []int64
	for _, t := range tol {
		offsets = append(offsets, drawIn(r, t))
	}
	for _, b := range box {
		vector = append(vector, drawIn(r, b))
	}
	member, e := cell.Apply(c, offsets)
	if e != api.OK {
		return member, s, false
	}
	s, _ = cell.Of(vector)
	s.Charge = max(min(s.Charge, modelOf(member, s).capacity()), box[0].Lo)
	return member, s, cell.CheckState(member, s) == api.OK
}

// points is a box of one list of numbers.
func points(l ...int64) []api.Span {
	var b []api.Span
	for _, x := range l {
		b = append(b, span(x, x))
	}
	return b
}
