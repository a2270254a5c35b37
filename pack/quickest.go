package pack

import "coulomb/api"

// quickest is a plan that claims to have the fewest ticks, because an interval of groups needs so many.
type quickest struct {
	plan
	ticks, from, to int
}

// Quickest returns a plan with the fewest ticks. (P4.9)
func Quickest(c []int, lo, hi int) (api.Quick, api.Errno) {
	g, e := newGoal(c, lo, hi)
	if e != api.OK {
		return api.Quick{}, e
	}
	if !g.isPossible() {
		return api.Quick{}, api.ErrPlan
	}
	flows, count := g.best(larger)
	from, to := g.firstThatNeeds(count)
	return api.Quick{Flows: flows, Ticks: count, From: from, To: to}, api.OK
}

// CheckQuickest reports whether a plan has the fewest ticks. (P4.10)
func CheckQuickest(c []int, lo, hi int, q api.Quick) api.Errno {
	p, e := newPlan(c, lo, hi, q.Flows)
	if e != api.OK {
		return e
	}
	if !p.hasInterval(q.From, q.To) {
		return api.ErrRange
	}
	x := quickest{p, q.Ticks, q.From, q.To}
	return checkAll(x.isInBand, x.isTimed, x.isNeeded)
}

// Needs returns how many ticks an interval of groups needs. (P4.10)
func Needs(c []int, lo, hi, from, to int) (int, api.Errno) {
	g, e := newGoal(c, lo, hi)
	if e != api.OK {
		return 0, e
	}
	if !g.hasInterval(from, to) {
		return 0, api.ErrRange
	}
	need, ok := g.needs(from, to)
	if !ok {
		return 0, api.ErrPlan
	}
	return need, api.OK
}

// Narrowest returns the narrowest band that can be reached in some ticks. (P4.11)
func Narrowest(c []int, ticks int) (int, int, api.Errno) {
	if e := checkLevels(c); e != api.OK {
		return 0, 0, e
	}
	if ticks < 0 {
		return 0, 0, api.ErrRange
	}
	width, lo := 0, 0
	for !(goal{c, lo, lo + width}).isReached(ticks) { // at the latest it is by the flows 0
		lo++
		if lo+width > api.MaxLevel {
			width, lo = width+1, 0
		}
	}
	return lo, lo + width, api.OK
}

// isTimed reports whether the plan takes as many ticks as it claims.
func (q quickest) isTimed() bool { return q.ticks == q.total(larger) }

// isNeeded reports whether the interval needs as many ticks as the plan claims.
func (q quickest) isNeeded() bool {
	need, ok := q.needs(q.from, q.to)
	return ok && need == q.ticks
}

// hasInterval reports whether there is such an interval of groups.
func (g goal) hasInterval(from, to int) bool {
	return 0 <= from && from <= to && to < len(g.levels)
}

// needs returns how many ticks an interval of groups needs; ok is false if it can never be balanced.
func (g goal) needs(from, to int) (need int, ok bool) {
	sum, groups := sumOf(g.levels[from:to+1]), to-from+1
	excess := max(sum-groups*g.hi, groups*g.lo-sum, 0)
	ends := 0
	if from > 0 {
		ends++
	}
	if to < len(g.levels)-1 {
		ends++
	}
	if ends == 0 {
		return 0, excess == 0
	}
	return (excess + ends - 1) / ends, true
}

// firstThatNeeds returns the first interval that needs so many ticks.
func (g goal) firstThatNeeds(count int) (from, to int) {
	for from := range g.levels {
		for to := from; to < len(g.levels); to++ {
			if need, ok := g.needs(from, to); ok && need == count {
				return from, to
			}
		}
	}
	return 0, 0
}

// isReached reports whether flows of at most so many ticks bring the levels into the band.
func (g goal) isReached(ticks int) bool {
	least, greatest := 0, 0 // all flows between, and no others, are possible into a group
	for _, level := range g.levels {
		least, greatest = max(-ticks, least+level-g.hi), min(ticks, greatest+level-g.lo)
		if least > greatest {
			return false
		}
	}
	return isFrom(0, least, greatest)
}
