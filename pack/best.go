package pack

import (
	"math"

	"coulomb/api"
)

// maxFlow is the greatest amount of a flow behind which levels can be in a band: the groups on either side of it cannot lose more than they have, nor get more than they have room for, and the side with fewer groups has no more than half of them.
const maxFlow = api.MaxGroups / 2 * api.MaxLevel

// byFlow has a total for each flow from -maxFlow to maxFlow.
type byFlow [2*maxFlow + 1]int

// at returns the total for a flow.
func (b *byFlow) at(flow int) *int { return &b[maxFlow+flow] }

// isPossible reports whether there are flows behind which the levels are in the band.
func (g goal) isPossible() bool {
	sum, groups := sumOf(g.levels), len(g.levels)
	return isFrom(sum, groups*g.lo, groups*g.hi)
}

// best returns, for a goal that is possible, the first of the flows with the least total, and this total.
func (g goal) best(join func(a, b int) int) ([]int, int) {
	rest := g.totals(join)
	total, done, in := *rest[0].at(0), 0, 0
	flows := make([]int, len(g.levels)-1)
	for i := range flows {
		out, greatest := g.out(i, in)
		for out < greatest && join(done, join(amount(out), *rest[i+1].at(out))) > total {
			out++
		}
		flows[i], done, in = out, join(done, amount(out)), out
	}
	return flows, total
}

// totals returns for each group, for each flow into it, the least total of the flows from this group on.
func (g goal) totals(join func(a, b int) int) []byFlow {
	rest := make([]byFlow, len(g.levels)+1)
	for i := len(g.levels) - 1; i >= 0; i-- {
		least, greatest := g.into(i)
		for in := least; in <= greatest; in++ {
			*rest[i].at(in) = g.leastOut(i, in, &rest[i+1], join)
		}
	}
	return rest
}

// leastOut returns the least total of the flows from a group on, for a flow into it, and the totals behind the flow out of it.
func (g goal) leastOut(group, in int, rest *byFlow, join func(a, b int) int) int {
	total := math.MaxInt
	least, greatest := g.out(group, in)
	for out := least; out <= greatest; out++ {
		total = min(total, join(amount(out), *rest.at(out)))
	}
	return total
}

// out returns the least and the greatest flow out of a group behind which it is in the band, and so can be all groups that follow.
func (g goal) out(group, in int) (least, greatest int) {
	least, greatest = g.into(group + 1)
	level := g.levels[group] + in
	return max(least, level-g.hi), min(greatest, level-g.lo)
}

// into returns the least and the greatest flow into a group with which all groups before it can be in the band, and all others, too.
func (g goal) into(group int) (least, greatest int) {
	before, others := sumOf(g.levels[:group]), sumOf(g.levels[group:])
	left, right := group, len(g.levels)-group
	return max(before-left*g.hi, right*g.lo-others), min(before-left*g.lo, right*g.hi-others)
}
