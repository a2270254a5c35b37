package cell

import (
	"cmp"

	"coulomb/api"
	"coulomb/quantity"
)

// enclosure is a cell with tolerances in a state box: the cells, and the states, with all the Lo and with all the Hi.
type enclosure struct {
	low, high   api.Cell
	least, most api.State
}

// VoltageBox returns the span of the voltage. (P2.9)
func VoltageBox(c api.Cell, tol, box []api.Span, current api.Span) (api.Span, api.Errno) {
	x, e := enclose(c, tol, box)
	if e != api.OK {
		return api.Span{}, e
	}
	if !quantity.Inside(current, inputRanges()[0]) {
		return api.Span{}, api.ErrArg
	}
	return x.voltage(current), api.OK
}

// FillBox returns the span of the fill. (P2.9)
func FillBox(c api.Cell, tol, box []api.Span) (api.Span, api.Errno) {
	x, e := enclose(c, tol, box)
	if e != api.OK {
		return api.Span{}, e
	}
	return x.fill(), api.OK
}

// StepBox returns the next box. (P2.10)
func StepBox(c api.Cell, tol, box, in []api.Span) ([]api.Span, api.Errno) {
	x, e := enclose(c, tol, box)
	if e != api.OK {
		return nil, e
	}
	if !quantity.BoxInside(in, inputRanges()) {
		return nil, api.ErrArg
	}
	after := x.next(in[0], in[1])
	if after.most.Through > api.MaxQuantity || after.most.Age > api.MaxQuantity {
		return nil, api.ErrOver
	}
	return after.box(), api.OK
}

// enclose returns a cell with tolerances in a state box, or the errors of all three.
func enclose(c api.Cell, tol, box []api.Span) (enclosure, api.Errno) {
	if e := Possible(c, tol); e != api.OK {
		return enclosure{}, e
	}
	if !quantity.BoxInside(box, stateRanges()) {
		return enclosure{}, api.ErrArg
	}
	leastOffsets, mostOffsets := ends(tol)
	leastVector, mostVector := ends(box)
	x := enclosure{low: withOffsets(c, leastOffsets), high: withOffsets(c, mostOffsets)}
	x.least, _ = Of(leastVector)
	x.most, _ = Of(mostVector)
	return x, api.OK
}

// box returns the spans from the least state to the greatest one.
func (x enclosure) box() []api.Span {
	greatest := Vector(x.most)
	spans := make([]api.Span, len(greatest))
	for i, lo := range Vector(x.least) {
		spans[i] = api.Span{Lo: lo, Hi: greatest[i]}
	}
	return spans
}

// next returns the same cell in the next box, also if it is beyond MaxQuantity.
func (x enclosure) next(current, ambient api.Span) enclosure {
	flow, relax, temp := amounts(current), x.relax(current), x.temp(current, ambient)
	after := enclosure{
		low: x.low, high: x.high,
		least: api.State{Relax: relax.Lo, Temp: temp.Lo, Through: x.least.Through + flow.Lo, Age: aged(x.low, x.least)},
		most:  api.State{Relax: relax.Hi, Temp: temp.Hi, Through: x.most.Through + flow.Hi, Age: aged(x.high, x.most)},
	}
	room := after.capacity()
	after.least.Charge = bring(x.least.Charge-current.Hi-x.high.Leak, 0, room.Lo)
	after.most.Charge = bring(x.most.Charge-current.Lo-x.low.Leak, 0, room.Hi)
	return after
}

// wear returns the span of the wear.
func (x enclosure) wear() api.Span {
	return api.Span{Lo: stateWear(x.low, x.least), Hi: stateWear(x.high, x.most)}
}

// capacity returns the span of the capacity.
func (x enclosure) capacity() api.Span {
	worn := x.wear()
	return api.Span{Lo: left(x.low, worn.Hi), Hi: left(x.high, worn.Lo)}
}

// fill returns the span of the fill.
func (x enclosure) fill() api.Span {
	room := x.capacity()
	return api.Span{Lo: fill(x.least.Charge, room.Hi), Hi: fill(x.most.Charge, room.Lo)}
}

// resist returns the span of the resistance, which is the greatest one where it is coldest.
func (x enclosure) resist() api.Span {
	worn := x.wear()
	return api.Span{Lo: resist(x.low, x.most.Temp, worn.Lo), Hi: resist(x.high, x.least.Temp, worn.Hi)}
}

// voltage returns the span of the voltage for a span of currents.
func (x enclosure) voltage(current api.Span) api.Span {
	full, r := x.fill(), x.resist()
	drop, mostDrop := extremes(current.Lo*r.Lo, current.Lo*r.Hi, current.Hi*r.Lo, current.Hi*r.Hi)
	return api.Span{
		Lo: open(x.low, full.Lo) - x.most.Relax - down(mostDrop, perVolt),
		Hi: open(x.high, full.Hi) - x.least.Relax - down(drop, perVolt),
	}
}

// heat returns the span of the heat for a span of currents.
func (x enclosure) heat(current api.Span) api.Span {
	flow, relax, r := squares(current), squares(api.Span{Lo: x.least.Relax, Hi: x.most.Relax}), x.resist()
	sum := api.Span{Lo: down(flow.Lo*r.Lo, perHeat), Hi: down(flow.Hi*r.Hi, perHeat)}
	if x.low.Pair > 0 { // without a pair there is no heat of it, so the least one is 0 if this is possible
		sum.Lo += down(relax.Lo, perVolt*x.high.Pair)
	}
	if x.high.Pair > 0 {
		sum.Hi += down(relax.Hi, perVolt*max(1, x.low.Pair))
	}
	return sum
}

// relax returns the span of the relaxation behind a tick.
func (x enclosure) relax(current api.Span) api.Span {
	behind := func(relax int64) (least, greatest int64) {
		of := func(current, pair int64) int64 { return relaxed(x.low.Keep, relax, current, pair) }
		return extremes(of(current.Lo, x.low.Pair), of(current.Lo, x.high.Pair), of(current.Hi, x.low.Pair), of(current.Hi, x.high.Pair))
	}
	least, _ := behind(x.least.Relax)
	_, greatest := behind(x.most.Relax)
	return api.Span{Lo: least, Hi: greatest}
}

// temp returns the span of the temperature behind a tick.
func (x enclosure) temp(current, ambient api.Span) api.Span {
	warmth := x.heat(current)
	behind := func(temp, heating, difference int64) (least, greatest int64) {
		return extremes(warmed(temp, heating, cooling(difference, x.low.Cool)), warmed(temp, heating, cooling(difference, x.high.Cool)))
	}
	least, _ := behind(x.least.Temp, down(warmth.Lo*1000, x.high.HeatCap), ambient.Lo-x.least.Temp)
	_, greatest := behind(x.most.Temp, down(warmth.Hi*1000, x.low.HeatCap), ambient.Hi-x.most.Temp)
	return api.Span{Lo: least, Hi: greatest}
}

// amounts returns the span of the amounts of the numbers in a span.
func amounts(s api.Span) api.Span {
	least, greatest := extremes(max(s.Lo, -s.Lo), max(s.Hi, -s.Hi))
	if quantity.Has(s, 0) {
		least = 0
	}
	return api.Span{Lo: least, Hi: greatest}
}

// squares returns the span of the squares of the numbers in a span.
func squares(s api.Span) api.Span {
	a := amounts(s)
	return api.Span{Lo: a.Lo * a.Lo, Hi: a.Hi * a.Hi}
}

// extremes returns the least and the greatest of some numbers.
func extremes[T cmp.Ordered](first T, more ...T) (least, greatest T) {
	least, greatest = first, first
	for _, x := range more {
		least, greatest = min(least, x), max(greatest, x)
	}
	return least, greatest
}
