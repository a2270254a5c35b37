package cell_test

import (
	"math/big"
	"slices"

	"coulomb/api"
)

// exactModel is a cell in a state, and computes what the chapter says with numbers of any size.
type exactModel struct {
	c api.Cell
	s api.State
}

func modelOf(c api.Cell, s api.State) exactModel { return exactModel{c, s} }

// product returns the exact product of some numbers.
func product(factors ...int64) *big.Int {
	p := big.NewInt(1)
	for _, f := range factors {
		p.Mul(p, big.NewInt(f))
	}
	return p
}

// floorOf returns a quotient, rounded down; the divisor is above 0.
func floorOf(x *big.Int, den int64) int64 { return new(big.Int).Div(x, big.NewInt(den)).Int64() }

// valueAt returns the value of a curve at a number, rounded down.
func valueAt(c api.Curve, x int64) int64 {
	for i := range len(c.X) - 1 {
		if c.X[i] <= x && x < c.X[i+1] {
			return c.Y[i] + floorOf(product(x-c.X[i], c.Y[i+1]-c.Y[i]), c.X[i+1]-c.X[i])
		}
	}
	if x < c.X[0] {
		return c.Y[0]
	}
	return c.Y[len(c.Y)-1]
}

// into returns the nearest number to x of a range.
func into(x, lo, hi int64) int64 {
	switch {
	case x < lo:
		return lo
	case x > hi:
		return hi
	}
	return x
}

func wearOf(c api.Cell, through, age int64) int64 {
	return floorOf(product(through, c.CycleLoss), 1<<30) + floorOf(product(age, c.AgeLoss), 1<<30)
}

func resistOf(c api.Cell, temp, extra, wear int64) int64 {
	return into(valueAt(c.Cold, 400000-temp)+extra+floorOf(product(wear, c.Growth), 65536), 0, 1<<20)
}

func relaxOf(c api.Cell, relax, current, pair int64) int64 {
	sum := product(1000, c.Keep, relax)
	sum.Add(sum, product(65536-c.Keep, current, pair))
	return into(floorOf(sum, 65536000), -1<<23, 1<<23)
}

func (m exactModel) wear() int64 { return wearOf(m.c, m.s.Through, m.s.Age) }

func (m exactModel) capacity() int64 { return max(m.c.Capacity-m.wear(), 1) }

func (m exactModel) fill() int64 { return floorOf(product(m.s.Charge, 65536), m.capacity()) }

func (m exactModel) health() int64 {
	return floorOf(product(65536, max(m.c.Capacity-m.wear(), 0)), m.c.Capacity)
}

func (m exactModel) open() int64 { return valueAt(m.c.Ocv, m.fill()) + m.c.Shift }

func (m exactModel) resist() int64 { return resistOf(m.c, m.s.Temp, m.c.Extra, m.wear()) }

func (m exactModel) voltage(current int64) int64 {
	return m.open() - m.s.Relax - floorOf(product(current, m.resist()), 1000)
}

func (m exactModel) heat(current int64) int64 {
	heat := floorOf(product(current, current, m.resist()), 1000000000)
	if m.c.Pair != 0 {
		heat += floorOf(product(m.s.Relax, m.s.Relax), 1000*m.c.Pair)
	}
	return heat
}

func (m exactModel) energy(current int64) int64 {
	return floorOf(product(m.voltage(current), current), 1000000)
}

// next is the next state, also if it is beyond the limits of a state.
func (m exactModel) next(in api.Input) api.State {
	after := api.State{
		Through: m.s.Through + into(in.Current, 0, 1<<21) + into(-in.Current, 0, 1<<21),
		Age:     m.s.Age + valueAt(m.c.Stress, m.s.Temp),
		Relax:   relaxOf(m.c, m.s.Relax, in.Current, m.c.Pair),
	}
	warming := floorOf(product(m.heat(in.Current), 1000), m.c.HeatCap)
	cooling := floorOf(product(in.Ambient-m.s.Temp, m.c.Cool), 65536)
	after.Temp = into(m.s.Temp+warming+cooling, 0, 400000)
	after.Charge = into(m.s.Charge-in.Current-m.c.Leak, 0, modelOf(m.c, after).capacity())
	return after
}

// step is what Step has to return for a valid input.
func (m exactModel) step(in api.Input) stateResult {
	after := m.next(in)
	if after.Through > most || after.Age > most {
		return stateResult{errno: api.ErrOver}
	}
	return stateResult{state: after}
}

// safeOut reports whether a current out of the cell is safe.
func (m exactModel) safeOut(current int64, lim api.Limits, ambient int64) bool {
	after := m.next(api.Input{Current: current, Ambient: ambient})
	return m.voltage(current) >= lim.Least && after.Temp <= lim.Hot && m.s.Charge >= current+m.c.Leak
}

// safeIn reports whether a current into the cell is safe.
func (m exactModel) safeIn(current int64, lim api.Limits, ambient int64) bool {
	after := m.next(api.Input{Current: -current, Ambient: ambient})
	room := m.c.Capacity - wearOf(m.c, m.s.Through+current, after.Age)
	return m.voltage(-current) <= lim.Most && after.Temp <= lim.Hot && m.s.Charge+current-m.c.Leak <= max(room, 1)
}

// exactBox is a cell with tolerances in a state box, and computes what the tables of the chapter say.
type exactBox struct {
	c                                              api.Cell
	sizes, shift, extra, pair, leak, heatCap, cool api.Span
	charge, relax, temp, through, age              api.Span
	wear, capacity, fill, open, resist             api.Span
}

func boxOf(c api.Cell, tol, box []api.Span) exactBox {
	moved := func(i int, x int64) api.Span { return span(x+tol[i].Lo, x+tol[i].Hi) }
	x := exactBox{
		c: c, sizes: moved(0, c.Capacity), shift: moved(1, c.Shift), extra: moved(2, c.Extra), pair: moved(3, c.Pair), leak: moved(4, c.Leak), heatCap: moved(5, c.HeatCap), cool: moved(6, c.Cool),
		charge: box[0], relax: box[1], temp: box[2], through: box[3], age: box[4],
	}
	x.wear, x.capacity = x.worn(x.through, x.age)
	x.fill = span(fillOf(x.charge.Lo, x.capacity.Hi), fillOf(x.charge.Hi, x.capacity.Lo))
	x.open = span(valueAt(c.Ocv, x.fill.Lo)+x.shift.Lo, valueAt(c.Ocv, x.fill.Hi)+x.shift.Hi)
	x.resist = span(resistOf(c, x.temp.Hi, x.extra.Lo, x.wear.Lo), resistOf(c, x.temp.Lo, x.extra.Hi, x.wear.Hi))
	return x
}

// worn are the spans of the wear and the capacity, for spans of the throughput and the age.
func (x exactBox) worn(through, age api.Span) (wear, capacity api.Span) {
	wear = span(wearOf(x.c, through.Lo, age.Lo), wearOf(x.c, through.Hi, age.Hi))
	return wear, span(max(x.sizes.Lo-wear.Hi, 1), max(x.sizes.Hi-wear.Lo, 1))
}

func fillOf(charge, capacity int64) int64 {
	return min(floorOf(product(charge, 65536), capacity), 65536)
}

// around returns the least and the greatest one of some numbers.
func around(l ...int64) api.Span { return span(slices.Min(l), slices.Max(l)) }

// squareOf returns the span of the squares of a span.
func squareOf(s api.Span) api.Span {
	squares := around(s.Lo*s.Lo, s.Hi*s.Hi)
	if s.Lo <= 0 && 0 <= s.Hi {
		squares.Lo = 0
	}
	return squares
}

func (x exactBox) volts(current api.Span) api.Span {
	products := around(current.Lo*x.resist.Lo, current.Lo*x.resist.Hi, current.Hi*x.resist.Lo, current.Hi*x.resist.Hi)
	return span(x.open.Lo-x.relax.Hi-floorOf(product(products.Hi), 1000), x.open.Hi-x.relax.Lo-floorOf(product(products.Lo), 1000))
}

func (x exactBox) heat(current api.Span) api.Span {
	flow, relax := squareOf(current), squareOf(x.relax)
	heat := span(floorOf(product(flow.Lo, x.resist.Lo), 1000000000), floorOf(product(flow.Hi, x.resist.Hi), 1000000000))
	if x.pair.Lo != 0 {
		heat.Lo += floorOf(product(relax.Lo), 1000*x.pair.Hi)
	}
	if x.pair.Hi != 0 {
		heat.Hi += floorOf(product(relax.Hi), 1000*max(x.pair.Lo, 1))
	}
	return heat
}

func (x exactBox) temps(current, ambient api.Span) api.Span {
	heat := x.heat(current)
	cooling := func(ambient, temp int64) api.Span {
		return around(floorOf(product(ambient-temp, x.cool.Lo), 65536), floorOf(product(ambient-temp, x.cool.Hi), 65536))
	}
	lo := x.temp.Lo + floorOf(product(heat.Lo, 1000), x.heatCap.Hi) + cooling(ambient.Lo, x.temp.Lo).Lo
	hi := x.temp.Hi + floorOf(product(heat.Hi, 1000), x.heatCap.Lo) + cooling(ambient.Hi, x.temp.Hi).Hi
	return span(into(lo, 0, 400000), into(hi, 0, 400000))
}

// next is the next box, also if it is beyond the limits of a state.
func (x exactBox) next(current, ambient api.Span) []api.Span {
	amount := around(max(current.Lo, -current.Lo), max(current.Hi, -current.Hi))
	if current.Lo <= 0 && 0 <= current.Hi {
		amount.Lo = 0
	}
	through := span(x.through.Lo+amount.Lo, x.through.Hi+amount.Hi)
	age := span(x.age.Lo+valueAt(x.c.Stress, x.temp.Lo), x.age.Hi+valueAt(x.c.Stress, x.temp.Hi))
	ends := func(relax int64) api.Span {
		return around(relaxOf(x.c, relax, current.Lo, x.pair.Lo), relaxOf(x.c, relax, current.Lo, x.pair.Hi), relaxOf(x.c, relax, current.Hi, x.pair.Lo), relaxOf(x.c, relax, current.Hi, x.pair.Hi))
	}
	_, room := x.worn(through, age)
	charge := span(into(x.charge.Lo-current.Hi-x.leak.Hi, 0, room.Lo), into(x.charge.Hi-current.Lo-x.leak.Lo, 0, room.Hi))
	return []api.Span{charge, span(ends(x.relax.Lo).Lo, ends(x.relax.Hi).Hi), x.temps(current, ambient), through, age}
}

// safe reports whether a current is safe for the box.
func (x exactBox) safe(current int64, lim api.Limits, ambient api.Span) bool {
	point := span(current, current)
	return x.volts(point).Lo >= lim.Least && x.temps(point, ambient).Hi <= lim.Hot && x.charge.Lo >= current+x.leak.Hi
}
