package pack

import (
	"coulomb/api"
	"coulomb/cell"
)

const (
	// perVolt is how many mA times microohm make a microvolt.
	perVolt = 1000

	// far is a voltage at which each cell takes more than MaxCurrent; at -far each gives more. With any resistance 2^31 above, or below, the source voltage is enough for that, and the amount of this one is less than 2^25.
	far = 1 << 32
)

// source is what a cell shows to the others of its group: its source voltage, and its resistance, which is at least 1.
type source struct{ volt, resist int64 }

// group is the sources of its cells.
type group []source

// Split returns the currents of the cells of a group, and its voltage. (P4.2)
func Split(p api.Pack, s [][]api.State, group int, current int64) ([]int64, int64, api.Errno) {
	if e := CheckStates(p, s); e != api.OK {
		return nil, 0, e
	}
	if !isFrom(group, 0, len(p.Groups)-1) || !isCurrent(current) {
		return nil, 0, api.ErrRange
	}
	parts, voltage := sources(p.Groups[group], s[group]).split(current)
	if !areCurrents(parts) {
		return nil, 0, api.ErrOver
	}
	return parts, voltage, api.OK
}

// share returns the current of each cell of a pack, and the voltage of the pack, or ErrOver.
func share(p api.Pack, s [][]api.State, current int64) ([][]int64, int64, api.Errno) {
	parts, voltage := splitAll(wire(p, s), current)
	for _, part := range parts {
		if !areCurrents(part) {
			return nil, 0, api.ErrOver
		}
	}
	return parts, voltage, api.OK
}

// wire returns the groups of a pack in valid states.
func wire(p api.Pack, s [][]api.State) []group {
	groups := make([]group, len(s))
	for i, cells := range p.Groups {
		groups[i] = sources(cells, s[i])
	}
	return groups
}

// sources returns the group of some cells in valid states.
func sources(cells []api.Cell, s []api.State) group {
	g := make(group, len(cells))
	for i, c := range cells {
		open, _ := cell.Open(c, s[i])
		resist, _ := cell.Resist(c, s[i])
		g[i] = source{open - s[i].Relax, max(1, resist)}
	}
	return g
}

// splitAll returns the currents of the cells of each group, possible or not, and the sum of the voltages.
func splitAll(groups []group, current int64) ([][]int64, int64) {
	parts, sum := make([][]int64, len(groups)), int64(0)
	for i, g := range groups {
		part, voltage := g.split(current)
		parts[i] = part
		sum += voltage
	}
	return parts, sum
}

// split returns the currents of the cells, possible or not, and the voltage.
func (g group) split(current int64) ([]int64, int64) {
	drawn := func(voltage int64) int64 {
		sum := int64(0)
		for _, s := range g {
			sum += s.drawn(voltage)
		}
		return sum
	}
	voltage := leastVoltage(current, drawn)
	parts, rest := make([]int64, len(g)), current-drawn(voltage)
	for i, s := range g {
		parts[i] = s.drawn(voltage)
		more := min(rest, s.drawn(voltage-1)-parts[i])
		parts[i] += more
		rest -= more
	}
	return parts, voltage
}

// drawn returns what a cell gives at a voltage.
func (s source) drawn(voltage int64) int64 { return down((s.volt-voltage)*perVolt, s.resist) }

// leastVoltage returns the least voltage at which what is drawn is at most a current.
func leastVoltage(current int64, drawn func(voltage int64) int64) int64 {
	return first(-far, far, func(voltage int64) bool { return drawn(voltage) <= current })
}

// first returns the first number above lo from which on something holds, or hi if it holds for none below hi.
func first(lo, hi int64, holds func(x int64) bool) int64 {
	for hi-lo > 1 {
		middle := lo + (hi-lo)/2
		if holds(middle) {
			hi = middle
		} else {
			lo = middle
		}
	}
	return hi
}

// areCurrents reports whether all parts of a split are possible.
func areCurrents(parts []int64) bool {
	for _, x := range parts {
		if !isCurrent(x) {
			return false
		}
	}
	return true
}

// down returns a / b, rounded down, also below 0; b is above 0.
func down(a, b int64) int64 {
	quotient := a / b
	if a%b < 0 {
		quotient--
	}
	return quotient
}
