package cell

import (
	"coulomb/api"
	"coulomb/quantity"
)

// What losses, resistances and heats are divided by. All their products fit a word: the greatest one, of a throughput and CycleLoss, is less than 2^61.
const (
	perLoss  = 1 << 30
	perVolt  = 1000       // mA times microohm for a microvolt
	perHeat  = 1000000000 // mA times mA times microohm for a mJ
	perPower = 1000000    // microvolt times mA for a mJ
)

// Capacity returns the capacity in a state. (P2.4)
func Capacity(c api.Cell, s api.State) (int64, api.Errno) { return ofState(c, s, capacity) }

// Fill returns how full a cell is. (P2.4)
func Fill(c api.Cell, s api.State) (int64, api.Errno) {
	return ofState(c, s, func(c api.Cell, s api.State) int64 { return fill(s.Charge, capacity(c, s)) })
}

// Health returns how much of its capacity a cell has left. (P2.4)
func Health(c api.Cell, s api.State) (int64, api.Errno) {
	return ofState(c, s, func(c api.Cell, s api.State) int64 {
		return down(api.Whole*max(0, c.Capacity-stateWear(c, s)), c.Capacity)
	})
}

// Open returns the open voltage. (P2.4)
func Open(c api.Cell, s api.State) (int64, api.Errno) { return ofState(c, s, stateOpen) }

// Resist returns the resistance. (P2.4)
func Resist(c api.Cell, s api.State) (int64, api.Errno) { return ofState(c, s, stateResist) }

// Voltage returns the voltage for a current. (P2.5)
func Voltage(c api.Cell, s api.State, current int64) (int64, api.Errno) {
	return ofCurrent(c, s, current, voltage)
}

// Heat returns the heat of a tick. (P2.5)
func Heat(c api.Cell, s api.State, current int64) (int64, api.Errno) {
	return ofCurrent(c, s, current, heat)
}

// Energy returns the energy that leaves a cell in a tick. (P2.5)
func Energy(c api.Cell, s api.State, current int64) (int64, api.Errno) {
	return ofCurrent(c, s, current, func(c api.Cell, s api.State, current int64) int64 {
		return down(voltage(c, s, current)*current, perPower)
	})
}

// Step returns the next state. (P2.6)
func Step(c api.Cell, s api.State, in api.Input) (api.State, api.Errno) {
	if e := CheckState(c, s); e != api.OK {
		return api.State{}, e
	}
	return step(c, s, in)
}

// Run returns the states after some inputs. (P2.6)
func Run(c api.Cell, s api.State, l []api.Input) ([]api.State, api.Errno) {
	if e := CheckState(c, s); e != api.OK {
		return nil, e
	}
	if len(l) > api.MaxTicks {
		return nil, api.ErrMany
	}
	states := make([]api.State, len(l))
	for i, in := range l {
		after, e := step(c, s, in)
		if e != api.OK {
			return nil, e
		}
		states[i], s = after, after
	}
	return states, api.OK
}

// ofState returns a quantity of a cell in a state, or the errors of both.
func ofState(c api.Cell, s api.State, compute func(api.Cell, api.State) int64) (int64, api.Errno) {
	if e := CheckState(c, s); e != api.OK {
		return 0, e
	}
	return compute(c, s), api.OK
}

// ofCurrent returns a quantity of a cell in a state, for a current, or the errors of all three.
func ofCurrent(c api.Cell, s api.State, current int64, compute func(api.Cell, api.State, int64) int64) (int64, api.Errno) {
	if e := CheckState(c, s); e != api.OK {
		return 0, e
	}
	if !isFrom(current, -api.MaxCurrent, api.MaxCurrent) {
		return 0, api.ErrRange
	}
	return compute(c, s, current), api.OK
}

// step returns the next state of a valid one, which is valid, too.
func step(c api.Cell, s api.State, in api.Input) (api.State, api.Errno) {
	if !quantity.BoxHas(inputRanges(), []int64{in.Current, in.Ambient}) {
		return api.State{}, api.ErrRange
	}
	after := next(c, s, in)
	if after.Through > api.MaxQuantity || after.Age > api.MaxQuantity {
		return api.State{}, api.ErrOver
	}
	return after, api.OK
}

// next returns the next state, also if it is beyond MaxQuantity.
func next(c api.Cell, s api.State, in api.Input) api.State {
	after := api.State{
		Relax:   relaxed(c.Keep, s.Relax, in.Current, c.Pair),
		Temp:    warmed(s.Temp, down(heat(c, s, in.Current)*1000, c.HeatCap), cooling(in.Ambient-s.Temp, c.Cool)),
		Through: s.Through + max(in.Current, -in.Current),
		Age:     aged(c, s),
	}
	after.Charge = bring(s.Charge-in.Current-c.Leak, 0, capacity(c, after))
	return after
}

// wear returns the capacity that is lost by a throughput and an age.
func wear(c api.Cell, through, age int64) int64 {
	return down(through*c.CycleLoss, perLoss) + down(age*c.AgeLoss, perLoss)
}

// stateWear returns the capacity that is lost in a state.
func stateWear(c api.Cell, s api.State) int64 { return wear(c, s.Through, s.Age) }

// left returns the capacity that a wear leaves.
func left(c api.Cell, wear int64) int64 { return max(1, c.Capacity-wear) }

// capacity returns the capacity in a state.
func capacity(c api.Cell, s api.State) int64 { return left(c, stateWear(c, s)) }

// fill returns how full a cell is. A box can have more charge than fits.
func fill(charge, capacity int64) int64 { return min(api.Whole, down(charge*api.Whole, capacity)) }

// open returns the open voltage at a fill.
func open(c api.Cell, fill int64) int64 { return value(c.Ocv, fill) + c.Shift }

// stateOpen returns the open voltage in a state.
func stateOpen(c api.Cell, s api.State) int64 { return open(c, fill(s.Charge, capacity(c, s))) }

// resist returns the resistance at a temperature, for a wear.
func resist(c api.Cell, temp, wear int64) int64 {
	return bring(value(c.Cold, api.MaxTemp-temp)+c.Extra+down(wear*c.Growth, api.Whole), 0, api.MaxResist)
}

// stateResist returns the resistance in a state.
func stateResist(c api.Cell, s api.State) int64 { return resist(c, s.Temp, stateWear(c, s)) }

// voltage returns the voltage for a current.
func voltage(c api.Cell, s api.State, current int64) int64 {
	return stateOpen(c, s) - s.Relax - down(current*stateResist(c, s), perVolt)
}

// heat returns the heat of a tick.
func heat(c api.Cell, s api.State, current int64) int64 {
	sum := down(current*current*stateResist(c, s), perHeat)
	if c.Pair > 0 {
		sum += down(s.Relax*s.Relax, perVolt*c.Pair)
	}
	return sum
}

// relaxed returns the voltage of the relaxation behind a tick.
func relaxed(keep, relax, current, pair int64) int64 {
	sum := perVolt*keep*relax + (api.Whole-keep)*current*pair
	return bring(down(sum, perVolt*api.Whole), -api.MaxVolt, api.MaxVolt)
}

// cooling returns by how much a difference to the temperature around a cell changes its own.
func cooling(difference, cool int64) int64 { return down(difference*cool, api.Whole) }

// warmed returns the temperature behind a tick.
func warmed(temp, heating, cooling int64) int64 {
	return bring(temp+heating+cooling, 0, api.MaxTemp)
}

// aged returns the age behind a tick.
func aged(c api.Cell, s api.State) int64 { return s.Age + value(c.Stress, s.Temp) }

// value returns the value of a valid curve at a quantity, rounded down.
func value(c api.Curve, x int64) int64 {
	s, _ := quantity.At(c, x)
	return s.Lo
}

// down returns a / b, rounded down, also below 0; b is above 0.
func down(a, b int64) int64 {
	quotient := a / b
	if a%b < 0 {
		quotient--
	}
	return quotient
}

// bring returns the nearest number to x from lo to hi.
func bring(x, lo, hi int64) int64 { return min(max(x, lo), hi) }
