package pack

import "coulomb/api"

// byPrice has a number for each price from -MaxGroups to MaxGroups.
type byPrice [2*api.MaxGroups + 1]int

// fewest is a plan that claims to have the fewest moves.
type fewest struct {
	plan
	count  int
	prices []int
}

// Fewest returns a plan with the fewest moves. (P4.7)
func Fewest(c []int, lo, hi int) (api.Moves, api.Errno) {
	g, e := newGoal(c, lo, hi)
	if e != api.OK {
		return api.Moves{}, e
	}
	if !g.isPossible() {
		return api.Moves{}, api.ErrPlan
	}
	flows, count := g.best(add)
	return api.Moves{Flows: flows, Count: count, Prices: g.prices()}, api.OK
}

// CheckFewest reports whether a plan has the fewest moves. (P4.8)
func CheckFewest(c []int, lo, hi int, m api.Moves) api.Errno {
	p, e := newPlan(c, lo, hi, m.Flows)
	if e != api.OK {
		return e
	}
	if len(m.Prices) != len(c) {
		return api.ErrEqual
	}
	if !arePrices(m.Prices) {
		return api.ErrArg
	}
	f := fewest{p, m.Count, m.Prices}
	return checkAll(f.isInBand, f.isCounted, f.isProved)
}

// isCounted reports whether the plan has as many moves as it claims.
func (f fewest) isCounted() bool { return f.count == f.total(add) }

// isProved reports whether the prices prove as many moves as the plan claims.
func (f fewest) isProved() bool {
	sum := 0
	for i, price := range f.prices {
		sum += f.proof(i, price)
	}
	return f.count == sum
}

// proof returns what the price of a group adds to what prices prove.
func (g goal) proof(group, price int) int {
	return price*g.levels[group] - max(price*g.lo, price*g.hi)
}

// prices returns prices that prove the most, which is the least number of moves: the flows and the prices are a linear program and its dual, whose corners are whole. There are such prices near 0: if all of them are above 0, or all below, they prove no less when each is moved towards 0 by 1.
func (g goal) prices() []int {
	proofs := g.proofs()
	prices := make([]int, len(g.levels))
	at := proofs[0].most(0, len(proofs[0])-1)
	for i := range prices {
		if i > 0 {
			at = proofs[i].mostNear(at)
		}
		prices[i] = at - api.MaxGroups
	}
	return prices
}

// proofs returns for each group, for each price of it, what it and the groups that follow prove at most.
func (g goal) proofs() []byPrice {
	proofs := make([]byPrice, len(g.levels))
	for i := len(proofs) - 1; i >= 0; i-- {
		for at := range proofs[i] {
			proofs[i][at] = g.proof(i, at-api.MaxGroups)
			if i+1 < len(proofs) {
				next := &proofs[i+1]
				proofs[i][at] += next[next.mostNear(at)]
			}
		}
	}
	return proofs
}

// mostNear returns the index of the greatest number for a price that differs by at most 1 from that of an index.
func (b *byPrice) mostNear(at int) int { return b.most(max(0, at-1), min(at+1, len(b)-1)) }

// most returns the index of the greatest number from an index to another one.
func (b *byPrice) most(from, to int) int {
	best := from
	for at := from; at <= to; at++ {
		if b[at] > b[best] {
			best = at
		}
	}
	return best
}

// arePrices reports whether some numbers are prices.
func arePrices(l []int) bool {
	if !areFrom(l, -api.MaxGroups, api.MaxGroups) {
		return false
	}
	for i := range len(l) - 1 {
		if amount(l[i+1]-l[i]) > 1 {
			return false
		}
	}
	return true
}
