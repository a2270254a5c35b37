package estimate

import (
	"slices"

	"coulomb/api"
	"coulomb/cell"
)

// taking is a reading that is being taken: a watch of its own, whose Box is cut, and what is behind each value of the reading.
type taking struct {
	api.Watch
	behind [4]api.Span
}

// cut reduces the box to the states that are possible with the reading, and reports whether there is one.
func (t *taking) cut() bool {
	for _, step := range []func() bool{t.meetInputs, t.meetTemp, t.cutCharge, t.cutRelax} {
		if !step() {
			return false
		}
	}
	return true
}

// step returns the next box.
func (t *taking) step() ([]api.Span, api.Errno) {
	return cell.StepBox(t.Cell, t.Tol, t.Box, []api.Span{t.behind[api.Current], t.behind[api.Ambient]})
}

// meetInputs reduces the current and the ambient temperature to those of the watch.
func (t *taking) meetInputs() bool {
	return reduce(&t.behind[api.Current], t.Currents) && reduce(&t.behind[api.Ambient], t.Ambients)
}

// meetTemp reduces the temperature to what is behind the reading.
func (t *taking) meetTemp() bool { return reduce(&t.Box[temp], t.behind[api.Temp]) }

// cutCharge reduces the charge to the whole numbers with a voltage that is behind the reading. With more charge no end of this voltage is less.
func (t *taking) cutCharge() bool {
	volt, all := t.behind[api.Volt], t.Box[charge]
	least := first(all, func(x int64) bool { return t.voltage(charge, x).Hi >= volt.Lo })
	beyond := first(all, func(x int64) bool { return t.voltage(charge, x).Lo > volt.Hi })
	t.Box[charge] = api.Span{Lo: least, Hi: beyond - 1}
	return least < beyond
}

// cutRelax reduces the relaxation to what can be between the voltage without it and that behind the reading.
func (t *taking) cutRelax() bool {
	without, volt := t.voltage(relax, 0), t.behind[api.Volt]
	return reduce(&t.Box[relax], api.Span{Lo: without.Lo - volt.Hi, Hi: without.Hi - volt.Lo})
}

// voltage returns the voltage of the box in which the span i is just x.
func (t *taking) voltage(i int, x int64) api.Span {
	box := slices.Clone(t.Box)
	box[i] = api.Span{Lo: x, Hi: x}
	s, _ := cell.VoltageBox(t.Cell, t.Tol, box, t.behind[api.Current])
	return s
}

// reduce leaves of a span what is in another one, too, and reports whether there is something. Differences of quantities can be ends of the other one.
func reduce(s *api.Span, other api.Span) bool {
	s.Lo, s.Hi = max(s.Lo, other.Lo), min(s.Hi, other.Hi)
	return s.Lo <= s.Hi
}

// first returns the least number of a span from which on all pass a test, or the one behind its end.
func first(s api.Span, passes func(x int64) bool) int64 {
	lo, beyond := s.Lo, s.Hi+1
	for lo < beyond {
		middle := lo + (beyond-lo)/2
		if passes(middle) {
			beyond = middle
		} else {
			lo = middle + 1
		}
	}
	return lo
}
