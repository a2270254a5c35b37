package pack_test

import (
	"math"
	"math/rand"
	"slices"

	"coulomb/api"
	"coulomb/cell"
)

const most = api.MaxQuantity

func curve(points ...int64) api.Curve {
	var c api.Curve
	for i := 0; i < len(points); i += 2 {
		c.X, c.Y = append(c.X, points[i]), append(c.Y, points[i+1])
	}
	return c
}

// plain is a cell that shows a source voltage and a resistance, however full it is; it stays as warm and as old as it is.
func plain(volt, resist int64, changes ...func(c *api.Cell)) api.Cell {
	c := api.Cell{
		Capacity: 1 << 32, Ocv: curve(0, 0, 65536, 0), Shift: volt, Cold: curve(0, 0, 400000, 0), Extra: resist,
		Keep: 65536, HeatCap: most, Stress: curve(0, 0, 400000, 0),
	}
	for _, change := range changes {
		change(&c)
	}
	return c
}

// holds changes a capacity.
func holds(capacity int64) func(c *api.Cell) { return func(c *api.Cell) { c.Capacity = capacity } }

// leaks changes a leak.
func leaks(leak int64) func(c *api.Cell) { return func(c *api.Cell) { c.Leak = leak } }

// lively is a cell in which everything happens.
func lively() api.Cell {
	return api.Cell{
		Capacity: 1000000, Ocv: curve(0, 3000000, 65536, 4000000), Cold: curve(0, 900, 400000, 2100), Extra: 7, Pair: 500, Keep: 32768,
		Leak: 10, HeatCap: 1000, Cool: 700, Stress: curve(0, 1, 400000, 5), CycleLoss: 1048576, AgeLoss: 1000000, Growth: 30000,
	}
}

// alone is a pack of groups of one cell each.
func alone(cells ...api.Cell) api.Pack {
	var p api.Pack
	for _, c := range cells {
		p.Groups = append(p.Groups, []api.Cell{c})
	}
	return p
}

// together is a pack of one group.
func together(cells ...api.Cell) api.Pack { return api.Pack{Groups: [][]api.Cell{cells}} }

// sized is a pack of groups with so many cells each.
func sized(sizes ...int) api.Pack {
	var p api.Pack
	for _, n := range sizes {
		var cells []api.Cell
		for range n {
			cells = append(cells, plain(3500000, 1000))
		}
		p.Groups = append(p.Groups, cells)
	}
	return p
}

// same are states of a pack that are all the same.
func same(p api.Pack, s api.State) [][]api.State {
	var l [][]api.State
	for _, cells := range p.Groups {
		l = append(l, slices.Repeat([]api.State{s}, len(cells)))
	}
	return l
}

// charged are states of groups of one cell each.
func charged(charges ...int64) [][]api.State {
	var l [][]api.State
	for _, x := range charges {
		l = append(l, []api.State{{Charge: x}})
	}
	return l
}

// cloneOf is a pack that shares no memory with p.
func cloneOf(p api.Pack) api.Pack {
	var l api.Pack
	for _, cells := range p.Groups {
		cells = slices.Clone(cells)
		for i, c := range cells {
			for _, d := range []*api.Curve{&c.Ocv, &c.Cold, &c.Stress} {
				*d = api.Curve{X: slices.Clone(d.X), Y: slices.Clone(d.Y)}
			}
			cells[i] = c
		}
		l.Groups = append(l.Groups, cells)
	}
	return l
}

// deep is a list of lists that shares no memory with l.
func deep[T any](l [][]T) [][]T {
	var m [][]T
	for _, x := range l {
		m = append(m, slices.Clone(x))
	}
	return m
}

// sameLists reports whether two lists of lists are equal.
func sameLists[T comparable](a, b [][]T) bool { return slices.EqualFunc(a, b, slices.Equal) }

// spoil changes all elements of a list, and what lies behind its end if there is room.
func spoil[T any](l []T, wrong T) {
	for i := range l[:cap(l)] {
		l[:cap(l)][i] = wrong
	}
}

// spoilLists does so in a list of lists, and leaves the lists where they are.
func spoilLists[T any](l [][]T, wrong T) {
	for _, x := range l {
		spoil(x, wrong)
	}
}

// wide are limits that forbid nothing but what fills or empties a cell.
func wide(changes ...func(lim *api.Limits)) api.Limits {
	lim := api.Limits{Least: -api.MaxVolt, Most: api.MaxVolt, Out: api.MaxCurrent, In: api.MaxCurrent, Hot: api.MaxTemp}
	for _, change := range changes {
		change(&lim)
	}
	return lim
}

// wildLimits are not possible.
func wildLimits() []api.Limits {
	l := []api.Limits{
		wide(func(lim *api.Limits) { lim.Least = -1<<23 - 1 }),
		wide(func(lim *api.Limits) { lim.Most = 1<<23 + 1 }),
		wide(func(lim *api.Limits) { lim.Least, lim.Most = 1, 0 }),
		wide(func(lim *api.Limits) { lim.Out = -1 }),
		wide(func(lim *api.Limits) { lim.Out = 1<<20 + 1 }),
		wide(func(lim *api.Limits) { lim.In = -1 }),
		wide(func(lim *api.Limits) { lim.In = 1<<20 + 1 }),
		wide(func(lim *api.Limits) { lim.Hot = -1 }),
		wide(func(lim *api.Limits) { lim.Hot = 400001 }),
	}
	for _, x := range wildNumbers() {
		l = append(l, api.Limits{Least: x, Most: x}, api.Limits{Out: x}, api.Limits{In: x}, api.Limits{Hot: x})
	}
	return l
}

// wildNumbers are beyond every limit.
func wildNumbers() []int64 {
	return []int64{math.MinInt64, math.MinInt64 + 1, -2 * most, -most - 1, most + 1, 2 * most, 1 << 62, math.MaxInt64}
}

// wildCells are not valid.
func wildCells() []api.Cell {
	long := plain(0, 0)
	for i := range int64(65) {
		long.Ocv.X, long.Ocv.Y = append(long.Ocv.X[:i], i), append(long.Ocv.Y[:i], i)
	}
	long.Ocv.X[64] = 65536
	l := []api.Cell{
		{}, long, plain(1<<23+1, 0), plain(0, 1<<20+1), plain(0, 0, holds(0)), plain(0, 0, holds(1<<32+1)), plain(0, 0, leaks(-1)),
		plain(0, 0, func(c *api.Cell) { c.Cold = curve(0, 1) }), plain(0, 0, func(c *api.Cell) { c.Stress.Y = nil }),
	}
	for _, x := range wildNumbers() {
		l = append(l, plain(x, 0), plain(0, x), plain(0, 0, holds(x)), plain(0, 0, leaks(x)))
	}
	return l
}

// wildStates are not valid for any cell.
func wildStates() []api.State {
	l := []api.State{{Charge: -1}, {Charge: 1<<32 + 1}, {Relax: -1<<23 - 1}, {Relax: 1<<23 + 1}, {Temp: -1}, {Temp: 400001}, {Through: -1}, {Through: most + 1}, {Age: -1}, {Age: most + 1}}
	for _, x := range wildNumbers() {
		l = append(l, api.State{Charge: x}, api.State{Relax: x}, api.State{Temp: x}, api.State{Through: x}, api.State{Age: x})
	}
	return l
}

// wildCurrents are beyond the limits of a current.
func wildCurrents() []int64 { return append(wildNumbers(), -1<<20-1, 1<<20+1) }

// wildAmbients are beyond the limits of an ambient temperature.
func wildAmbients() []int64 { return append(wildNumbers(), -1, 400001) }

// wildPack is a pack, or states of one, that are not valid, with their error.
type wildPack struct {
	p     api.Pack
	s     [][]api.State
	errno api.Errno
}

// wildPacks are not valid.
func wildPacks() []wildPack {
	var l []wildPack
	for _, p := range []api.Pack{{}, {Groups: [][]api.Cell{}}, {Groups: make([][]api.Cell, 17)}, sized(slices.Repeat([]int{1}, 17)...), sized(slices.Repeat([]int{1}, 100)...), sized(0), sized(5), sized(1, 0), sized(4, 5), sized(4, 4, 100, 4)} {
		l = append(l, wildPack{p, same(p, api.State{}), api.ErrMany})
	}
	for _, c := range wildCells() {
		for _, p := range []api.Pack{alone(c), together(plain(0, 0), plain(0, 0), plain(0, 0), c), alone(plain(0, 0), c, plain(0, 0))} {
			l = append(l, wildPack{p, same(p, api.State{}), api.ErrArg})
		}
	}
	// what comes first decides: of the groups one after the other, how many cells there are before which ones
	bad := api.Cell{}
	many := sized(slices.Repeat([]int{1}, 17)...)
	many.Groups[0][0] = bad
	five := sized(5, 1)
	five.Groups[0][0] = bad
	later := sized(1, 5)
	later.Groups[0][0] = bad
	earlier := sized(5, 1)
	earlier.Groups[1][0] = bad
	return append(l, wildPack{many, same(many, api.State{}), api.ErrMany}, wildPack{five, same(five, api.State{}), api.ErrMany},
		wildPack{later, same(later, api.State{}), api.ErrArg}, wildPack{earlier, same(earlier, api.State{}), api.ErrMany})
}

// wildPackStates are not the states of a valid pack.
func wildPackStates() []wildPack {
	p := sized(1, 2, 4)
	good := func(change func(s [][]api.State) [][]api.State) [][]api.State {
		return change(same(p, api.State{Charge: 5}))
	}
	var l []wildPack
	for _, change := range []func(s [][]api.State) [][]api.State{
		func(s [][]api.State) [][]api.State { return nil },
		func(s [][]api.State) [][]api.State { return [][]api.State{} },
		func(s [][]api.State) [][]api.State { return s[:2] },
		func(s [][]api.State) [][]api.State { return append(s, []api.State{{}}) },
		func(s [][]api.State) [][]api.State { s[0] = nil; return s },
		func(s [][]api.State) [][]api.State { s[1] = s[1][:1]; return s },
		func(s [][]api.State) [][]api.State { s[2] = append(s[2], api.State{}); return s },
		func(s [][]api.State) [][]api.State { s[0][0].Charge = -1; return s[:2] }, // lists are counted first
		func(s [][]api.State) [][]api.State { s[1][0].Temp = -1; s[1] = s[1][:1]; return s },
		func(s [][]api.State) [][]api.State { s[2][0].Temp = -1; s[1] = s[1][:1]; return s },
	} {
		l = append(l, wildPack{p, good(change), api.ErrEqual})
	}
	for _, wrong := range wildStates() {
		for _, change := range []func(s [][]api.State) [][]api.State{
			func(s [][]api.State) [][]api.State { s[0][0] = wrong; return s },
			func(s [][]api.State) [][]api.State { s[2][3] = wrong; return s },
			func(s [][]api.State) [][]api.State { s[1][1] = wrong; s[2] = nil; return s }, // an earlier group decides
		} {
			l = append(l, wildPack{p, good(change), api.ErrRange})
		}
	}
	small := together(plain(0, 0, holds(100)), plain(0, 0, holds(200)))
	return append(l, wildPack{small, [][]api.State{{{Charge: 101}, {Charge: 101}}}, api.ErrRange}, wildPack{small, [][]api.State{{{Charge: 100}, {Charge: 201}}}, api.ErrRange})
}

// chance draws the same numbers in each run.
func chance(seed int64) *rand.Rand { return rand.New(rand.NewSource(seed)) }

// pick draws one of some values.
func pick[T any](r *rand.Rand, l ...T) T { return l[r.Intn(len(l))] }

// drawFrom draws a number from lo to hi: an end, a number near to 0, one of a size that is drawn first, or any one.
func drawFrom(r *rand.Rand, lo, hi int64) int64 {
	size := int64(1) << r.Intn(41)
	x := pick(r, lo, hi, r.Int63n(7)-3, r.Int63n(2*size+1)-size, r.Int63n(2*size+1)-size, lo+r.Int63n(hi-lo+1))
	return min(max(x, lo), hi)
}

// drawCurve draws a curve of a cell.
func drawCurve(r *rand.Rand, width, lo, hi int64) api.Curve {
	xs := []int64{0, width}
	for range r.Intn(3) {
		xs = append(xs, r.Int63n(width))
	}
	slices.Sort(xs)
	xs = slices.Compact(xs)
	ys := make([]int64, len(xs))
	for i := range ys {
		ys[i] = drawFrom(r, lo, hi)
	}
	slices.Sort(ys)
	return api.Curve{X: xs, Y: ys}
}

// drawCell draws a valid cell: a usual one, or any one.
func drawCell(r *rand.Rand) api.Cell {
	switch r.Intn(4) {
	case 0:
		return plain(3500000+r.Int63n(3000), 1+r.Int63n(3000), leaks(r.Int63n(3)))
	case 1:
		c := lively()
		c.Extra, c.Shift = r.Int63n(5000), r.Int63n(20000)
		return c
	case 2:
		return plain(drawFrom(r, -1<<23, 1<<23), drawFrom(r, 0, 1<<20))
	}
	return api.Cell{
		Capacity: drawFrom(r, 1, 1<<32), Ocv: drawCurve(r, 65536, 0, 1<<23), Shift: drawFrom(r, -1<<23, 1<<23), Cold: drawCurve(r, 400000, 0, 1<<20), Extra: drawFrom(r, -1<<20, 1<<20),
		Pair: drawFrom(r, 0, 1<<20), Keep: drawFrom(r, 0, 65536), Leak: drawFrom(r, 0, 1<<20), HeatCap: drawFrom(r, 1, most), Cool: drawFrom(r, 0, 65536), Stress: drawCurve(r, 400000, 0, 1<<20),
		CycleLoss: drawFrom(r, 0, 1<<20), AgeLoss: drawFrom(r, 0, 1<<20), Growth: drawFrom(r, 0, 1<<20),
	}
}

// drawState draws a valid state of a cell, seldom near to the end of what can go through it.
func drawState(r *rand.Rand, c api.Cell) api.State {
	s := api.State{Relax: r.Int63n(2000) - 1000, Temp: 280000 + r.Int63n(40000), Through: r.Int63n(1 << 30), Age: r.Int63n(1 << 30)}
	if r.Intn(3) == 0 {
		s = api.State{Relax: drawFrom(r, -1<<23, 1<<23), Temp: drawFrom(r, 0, 400000), Through: drawFrom(r, 0, most), Age: drawFrom(r, 0, most)}
	}
	capacity, _ := cell.Capacity(c, s)
	s.Charge = drawFrom(r, 0, capacity)
	return s
}

// drawPack draws a pack with states: often a usual one.
func drawPack(r *rand.Rand) (api.Pack, [][]api.State) {
	var p api.Pack
	var s [][]api.State
	draw := pick(r, drawGroup, drawUsualGroup)
	for range 1 + r.Intn(3) {
		cells, states := draw(r, 1+r.Intn(4))
		p.Groups, s = append(p.Groups, cells), append(s, states)
	}
	return p, s
}

// drawGroup draws cells of any kind, often several of one model.
func drawGroup(r *rand.Rand, n int) ([]api.Cell, []api.State) {
	var cells []api.Cell
	var states []api.State
	c := drawCell(r)
	for range n {
		if r.Intn(2) == 0 {
			c = drawCell(r)
		}
		cells, states = append(cells, c), append(states, drawState(r, c))
	}
	return cells, states
}

// drawUsualGroup draws cells that are much alike, and about half full.
func drawUsualGroup(r *rand.Rand, n int) ([]api.Cell, []api.State) {
	var cells []api.Cell
	var states []api.State
	isPlain, volt := r.Intn(2) == 0, 3400000+r.Int63n(300000)
	for range n {
		c := lively()
		if isPlain {
			c = plain(volt+r.Int63n(100), 1+r.Int63n(3000), holds(1000000), leaks(r.Int63n(3)))
		}
		cells = append(cells, c)
		states = append(states, api.State{Charge: 500000 + r.Int63n(1000), Relax: r.Int63n(100), Temp: 290000 + r.Int63n(20000), Through: r.Int63n(1 << 20), Age: r.Int63n(1 << 20)})
	}
	return cells, states
}

// drawCurrent draws a current.
func drawCurrent(r *rand.Rand) int64 { return drawFrom(r, -1<<20, 1<<20) }

// drawLimits draws possible limits, often usual ones.
func drawLimits(r *rand.Rand) api.Limits {
	if r.Intn(2) == 0 {
		return api.Limits{Least: 3000000 + r.Int63n(600000), Most: 3600000 + r.Int63n(600000), Out: r.Int63n(1 << 20), In: r.Int63n(1 << 20), Hot: 300000 + r.Int63n(100000)}
	}
	a, b := drawFrom(r, -1<<23, 1<<23), drawFrom(r, -1<<23, 1<<23)
	return api.Limits{Least: min(a, b), Most: max(a, b), Out: drawFrom(r, 0, 1<<20), In: drawFrom(r, 0, 1<<20), Hot: drawFrom(r, 0, 400000)}
}

// drawLevels draws n levels up to a greatest one.
func drawLevels(r *rand.Rand, n, greatest int) []int {
	c := make([]int, n)
	for i := range c {
		c[i] = r.Intn(greatest + 1)
	}
	return c
}
