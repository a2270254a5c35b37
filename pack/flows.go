package pack

import (
	"iter"

	"coulomb/api"
)

// flowLimit is the greatest amount of a flow that is an argument.
const flowLimit = 2000

// goal is levels that flows are to bring into a band.
type goal struct {
	levels []int
	lo, hi int
}

// plan is flows for a goal.
type plan struct {
	goal
	flows []int
}

// Behind returns the levels behind flows. (P4.6)
func Behind(c, flows []int) ([]int, api.Errno) {
	if e := checkFlows(c, flows); e != api.OK {
		return nil, e
	}
	return behind(c, flows), api.OK
}

// After returns the levels behind some ticks of flows. (P4.6)
func After(c, flows []int, ticks int) ([]int, api.Errno) {
	if e := checkFlows(c, flows); e != api.OK {
		return nil, e
	}
	if ticks < 0 {
		return nil, api.ErrRange
	}
	cut := make([]int, len(flows))
	for i, flow := range flows {
		cut[i] = min(max(flow, -ticks), ticks)
	}
	return behind(c, cut), api.OK
}

// checkLevels returns the errors of levels.
func checkLevels(c []int) api.Errno {
	if !isFrom(len(c), 1, api.MaxGroups) {
		return api.ErrMany
	}
	if !areFrom(c, 0, api.MaxLevel) {
		return api.ErrRange
	}
	return api.OK
}

// checkFlows returns the errors of levels, and of flows.
func checkFlows(c, flows []int) api.Errno {
	if e := checkLevels(c); e != api.OK {
		return e
	}
	if len(flows) != len(c)-1 {
		return api.ErrEqual
	}
	if !areFrom(flows, -flowLimit, flowLimit) {
		return api.ErrRange
	}
	return api.OK
}

// newGoal returns a goal, or the errors of levels and of a band.
func newGoal(c []int, lo, hi int) (goal, api.Errno) {
	if e := checkLevels(c); e != api.OK {
		return goal{}, e
	}
	if lo < 0 || lo > hi || hi > api.MaxLevel {
		return goal{}, api.ErrArg
	}
	return goal{c, lo, hi}, api.OK
}

// newPlan returns a plan, or the errors of levels, of a band, and of flows.
func newPlan(c []int, lo, hi int, flows []int) (plan, api.Errno) {
	g, e := newGoal(c, lo, hi)
	if e != api.OK {
		return plan{}, e
	}
	if e := checkFlows(c, flows); e != api.OK {
		return plan{}, e
	}
	return plan{g, flows}, api.OK
}

// checkAll returns ErrSum if one of some conditions does not hold.
func checkAll(conditions ...func() bool) api.Errno {
	for _, holds := range conditions {
		if !holds() {
			return api.ErrSum
		}
	}
	return api.OK
}

// isInBand reports whether the levels behind the flows are in the band.
func (p plan) isInBand() bool {
	for _, level := range carry(p.levels, p.flows) {
		if !isFrom(level, p.lo, p.hi) {
			return false
		}
	}
	return true
}

// total returns the total of the amounts of the flows.
func (p plan) total(join func(a, b int) int) int {
	all := 0
	for flow := range carry(p.levels, p.flows) {
		all = join(all, amount(flow))
	}
	return all
}

// behind returns the levels behind flows.
func behind(c, flows []int) []int {
	levels := make([]int, 0, len(c))
	for _, level := range carry(c, flows) {
		levels = append(levels, level)
	}
	return levels
}

// carry yields for each group the flow out of it, to the next one, and its level behind all flows. The flow out of the last group is 0.
func carry(c, flows []int) iter.Seq2[int, int] {
	return func(yield func(flow, level int) bool) {
		in := 0
		for i, level := range c {
			out := 0
			if i < len(flows) {
				out = flows[i]
			}
			if !yield(out, level+in-out) {
				return
			}
			in = out
		}
	}
}

// add and larger join amounts of flows: the moves are their sum, the ticks the greatest one.
func add(a, b int) int    { return a + b }
func larger(a, b int) int { return max(a, b) }

// amount returns how many packets a flow moves.
func amount(flow int) int { return max(flow, -flow) }

// sumOf returns the sum of some numbers.
func sumOf(l []int) int {
	sum := 0
	for _, x := range l {
		sum += x
	}
	return sum
}

// areFrom reports whether all of some numbers are from lo to hi.
func areFrom(l []int, lo, hi int) bool {
	for _, x := range l {
		if !isFrom(x, lo, hi) {
			return false
		}
	}
	return true
}
