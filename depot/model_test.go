package depot_test

import (
	"iter"
	"math/big"
	"slices"

	"coulomb/api"
)

// wordOf is a number that has to fit a word.
func wordOf(x *big.Int) int64 {
	if !x.IsInt64() {
		panic("a number does not fit a word")
	}
	return x.Int64()
}

// times is a product of numbers of any size.
func times(a, b *big.Int) *big.Int { return new(big.Int).Mul(a, b) }

// costOf is the cost of a flow.
func costOf(n api.Net, flow []int64) int64 {
	sum := new(big.Int)
	for i, a := range n.Arcs {
		sum.Add(sum, times(big.NewInt(flow[i]), big.NewInt(a.Cost)))
	}
	return wordOf(sum)
}

// proofOf is what potentials prove.
func proofOf(n api.Net, potentials []int64) int64 {
	sum := new(big.Int)
	for _, a := range n.Arcs {
		r := big.NewInt(a.Cost)
		r.Add(r, big.NewInt(potentials[a.From]))
		r.Sub(r, big.NewInt(potentials[a.To]))
		if r.Sign() < 0 {
			sum.Add(sum, times(big.NewInt(a.Cap), r))
		}
	}
	for i, supply := range n.Supply {
		sum.Sub(sum, times(big.NewInt(supply), big.NewInt(potentials[i])))
	}
	return wordOf(sum)
}

// lackOf is what a cut lacks.
func lackOf(n api.Net, cut []int) int64 {
	sum := int64(0)
	for _, node := range cut {
		sum += n.Supply[node]
	}
	for _, a := range n.Arcs {
		if slices.Contains(cut, a.From) && !slices.Contains(cut, a.To) {
			sum -= a.Cap
		}
	}
	return max(sum, 0)
}

// isFlow reports whether a list is a flow of a net.
func isFlow(n api.Net, flow []int64) bool {
	if len(flow) != len(n.Arcs) {
		return false
	}
	for i, a := range n.Arcs {
		if flow[i] < 0 || flow[i] > a.Cap {
			return false
		}
	}
	for node, supply := range n.Supply {
		out := int64(0)
		for i, a := range n.Arcs {
			if a.From == node {
				out += flow[i]
			}
			if a.To == node {
				out -= flow[i]
			}
		}
		if out != supply {
			return false
		}
	}
	return true
}

// isCut reports whether some numbers are nodes of a net, increasing strictly.
func isCut(n api.Net, cut []int) bool {
	for i, node := range cut {
		if node < 0 || node >= len(n.Supply) || i > 0 && node <= cut[i-1] {
			return false
		}
	}
	return true
}

// arePotentials reports whether some numbers are potentials of a net.
func arePotentials(n api.Net, l []int64) bool {
	return len(l) == len(n.Supply) && !slices.ContainsFunc(l, func(x int64) bool { return x < -mostPotential || x > mostPotential })
}

// flows yields all flows of a net.
func flows(n api.Net) iter.Seq[[]int64] {
	return func(yield func(flow []int64) bool) {
		flow := make([]int64, len(n.Arcs))
		for {
			if isFlow(n, flow) && !yield(slices.Clone(flow)) {
				return
			}
			i := 0
			for i < len(flow) && flow[i] == n.Arcs[i].Cap {
				flow[i] = 0
				i++
			}
			if i == len(flow) {
				return
			}
			flow[i]++
		}
	}
}

// cuts yields all cuts of a net of a few nodes.
func cuts(n api.Net) iter.Seq[[]int] {
	return func(yield func(cut []int) bool) {
		for set := range 1 << len(n.Supply) {
			var cut []int
			for node := range n.Supply {
				if set&(1<<node) != 0 {
					cut = append(cut, node)
				}
			}
			if !yield(cut) {
				return
			}
		}
	}
}

// leastCost is the least cost of all flows; ok is false if there are none.
func leastCost(n api.Net) (cost int64, ok bool) {
	for flow := range flows(n) {
		if c := costOf(n, flow); !ok || c < cost {
			cost, ok = c, true
		}
	}
	return cost, ok
}

// lackMost is what the cut lacks that lacks most.
func lackMost(n api.Net) int64 {
	most := int64(0)
	for cut := range cuts(n) {
		most = max(most, lackOf(n, cut))
	}
	return most
}

// missing is how much of the supplies cannot flow: it is moved by ways of the fewest arcs, until there is none.
func missing(n api.Net) int64 {
	excess, flow := slices.Clone(n.Supply), make([]int64, len(n.Arcs))
	for {
		last, end := nextWay(n, excess, flow)
		if end < 0 {
			break
		}
		units, at := -excess[end], end
		for last[at] != nil {
			units, at = min(units, last[at].room), last[at].node
		}
		units = min(units, excess[at])
		excess[at] -= units
		excess[end] += units
		for at := end; last[at] != nil; at = last[at].node {
			flow[last[at].arc] += units * last[at].sign
		}
	}
	sum := int64(0)
	for _, x := range excess {
		sum += max(x, 0)
	}
	return sum
}

// step is an arc that is gone along, or back along: the node on its other side, and how much more can go there.
type step struct {
	arc, node  int
	sign, room int64
}

// stepsOf are the steps from each node.
func stepsOf(n api.Net, flow []int64) [][]step {
	steps := make([][]step, len(n.Supply))
	for i, a := range n.Arcs {
		steps[a.From] = append(steps[a.From], step{i, a.To, 1, a.Cap - flow[i]})
		steps[a.To] = append(steps[a.To], step{i, a.From, -1, flow[i]})
	}
	return steps
}

// nextWay finds a way with the fewest arcs from a node that has too much to one that has too little, and for each node the step by which the way comes to it; end is -1 if there is none.
func nextWay(n api.Net, excess, flow []int64) (last []*step, end int) {
	steps, seen := stepsOf(n, flow), make([]bool, len(excess))
	last = make([]*step, len(excess))
	var queue []int
	for node, x := range excess {
		if x > 0 {
			queue, seen[node] = append(queue, node), true
		}
	}
	for len(queue) > 0 {
		node := queue[0]
		queue = queue[1:]
		if excess[node] < 0 {
			return last, node
		}
		for _, s := range steps[node] {
			if s.room > 0 && !seen[s.node] {
				seen[s.node] = true
				last[s.node] = &step{s.arc, node, s.sign, s.room}
				queue = append(queue, s.node)
			}
		}
	}
	return last, -1
}

// isAway reports whether a car is away in a slot.
func isAway(c api.Car, slot int) bool {
	for _, t := range c.Trips {
		if t.From <= slot && slot <= t.To-1 {
			return true
		}
	}
	return false
}

// useAt is what a trip uses that begins in a slot.
func useAt(c api.Car, slot int) int64 {
	for _, t := range c.Trips {
		if t.From == slot {
			return t.Use
		}
	}
	return 0
}

// netOf is the net of a site and its cars.
func netOf(s api.Site, cars []api.Car) api.Net {
	end := len(s.Limit)
	n := empty(1 + end + 2*len(cars)*(end+1))
	first := func(i, k int) int { return 1 + end + 2*(i*(end+1)+k) }
	second := func(i, k int) int { return first(i, k) + 1 }
	for slot, limit := range s.Limit {
		n.Arcs = append(n.Arcs, arc(0, 1+slot, limit, s.Buy[slot]))
	}
	for slot, export := range s.Export {
		n.Arcs = append(n.Arcs, arc(1+slot, 0, export, -s.Sell[slot]))
	}
	for i, c := range cars {
		for k := 0; k <= end; k++ {
			n.Arcs = append(n.Arcs, arc(first(i, k), second(i, k), c.Capacity, 0))
			if k < end {
				n.Arcs = append(n.Arcs, arc(second(i, k), first(i, k+1), c.Capacity, 0))
			}
			if k < end && !isAway(c, k) {
				n.Arcs = append(n.Arcs, arc(1+k, first(i, k+1), c.In, 0), arc(second(i, k), 1+k, c.Out, 0))
			}
		}
		n.Arcs = append(n.Arcs, arc(second(i, end), 0, c.Capacity-c.Final, 0))
		n.Supply[first(i, 0)] += c.Start
		n.Supply[second(i, end)] -= c.Final
		for _, t := range c.Trips {
			n.Supply[second(i, t.From)] -= t.Use
		}
	}
	for _, x := range n.Supply[1:] {
		n.Supply[0] -= x
	}
	return n
}

// drawnIn is what the cars draw together in a slot.
func drawnIn(t api.Timetable, slot int) int64 {
	sum := int64(0)
	for i := range t.In {
		sum += t.In[i][slot] - t.Out[i][slot]
	}
	return sum
}

// levelsOf are the levels of a car.
func levelsOf(c api.Car, in, out []int64) []int64 {
	l := []int64{c.Start}
	for slot := range in {
		l = append(l, l[slot]-out[slot]+in[slot]-useAt(c, slot))
	}
	return l
}

// fits reports whether a timetable has a list for each car, and a number for each slot.
func fits(s api.Site, cars []api.Car, t api.Timetable) bool {
	isShort := func(l []int64) bool { return len(l) != len(s.Limit) }
	return len(t.In) == len(cars) && len(t.Out) == len(cars) && !slices.ContainsFunc(t.In, isShort) && !slices.ContainsFunc(t.Out, isShort)
}

// wantPlan is what CheckPlan has to return for a valid site.
func wantPlan(s api.Site, cars []api.Car, t api.Timetable) api.Errno {
	if !fits(s, cars, t) {
		return api.ErrEqual
	}
	for slot := range s.Limit {
		for i, c := range cars {
			in, out := t.In[i][slot], t.Out[i][slot]
			if in < 0 || in > c.In || out < 0 || out > c.Out || isAway(c, slot) && (in != 0 || out != 0) {
				return api.ErrRange
			}
		}
		if d := drawnIn(t, slot); d > s.Limit[slot] || d < -s.Export[slot] {
			return api.ErrLimit
		}
	}
	for i, c := range cars {
		levels := levelsOf(c, t.In[i], t.Out[i])
		for k, level := range levels {
			if level > c.Capacity || k < len(s.Limit) && (level < t.Out[i][k] || level < useAt(c, k)) {
				return api.ErrSum
			}
		}
		if levels[len(s.Limit)] < c.Final {
			return api.ErrSum
		}
	}
	return api.OK
}

// priceOf is the cost of a timetable.
func priceOf(s api.Site, t api.Timetable) int64 {
	sum := int64(0)
	for slot := range s.Limit {
		if d := drawnIn(t, slot); d > 0 {
			sum += d * s.Buy[slot]
		} else {
			sum += d * s.Sell[slot]
		}
	}
	return sum
}

// wantEager is the timetable that charges as soon as possible.
func wantEager(s api.Site, cars []api.Car) api.Timetable {
	t := idle(len(s.Limit), len(cars))
	for slot := range s.Limit {
		left := s.Limit[slot]
		for i, c := range cars {
			if isAway(c, slot) {
				continue
			}
			level := levelsOf(c, t.In[i], t.Out[i])[slot]
			t.In[i][slot] = min(c.In, c.Capacity-level, left)
			left -= t.In[i][slot]
		}
	}
	return t
}

// yardState are the levels of at most two cars.
type yardState [2]int64

// possibleCost is the least cost of the possible timetables of a site with at most two small cars, slot by slot, over all levels; ok is false if there are none.
func possibleCost(s api.Site, cars []api.Car) (cost int64, ok bool) {
	var start yardState
	for i, c := range cars {
		start[i] = c.Start
	}
	now := map[yardState]int64{start: 0}
	for slot := range s.Limit {
		next := map[yardState]int64{}
		for state, cost := range now {
			follow(s, cars, slot, state, cost, next)
		}
		now = next
	}
	for state, c := range now {
		if isEnough(cars, state) && (!ok || c < cost) {
			cost, ok = c, true
		}
	}
	return cost, ok
}

// isEnough reports whether the levels are as they have to be in the end.
func isEnough(cars []api.Car, state yardState) bool {
	for i, c := range cars {
		if state[i] < c.Final || state[i] > c.Capacity {
			return false
		}
	}
	return true
}

// follow adds what can follow in a slot, at the least cost.
func follow(s api.Site, cars []api.Car, slot int, state yardState, cost int64, next map[yardState]int64) {
	var choose func(i int, state yardState, drawn int64)
	choose = func(i int, state yardState, drawn int64) {
		if i < len(cars) {
			c := cars[i]
			for in := range c.In + 1 {
				for out := range min(c.Out, state[i]) + 1 {
					if isAway(c, slot) && (in > 0 || out > 0) {
						continue
					}
					then := state
					then[i] += in - out - useAt(c, slot)
					if state[i] >= useAt(c, slot) && then[i] <= c.Capacity {
						choose(i+1, then, drawn+in-out)
					}
				}
			}
			return
		}
		if drawn < -s.Export[slot] || drawn > s.Limit[slot] {
			return
		}
		total := cost + drawn*s.Buy[slot]
		if drawn < 0 {
			total = cost + drawn*s.Sell[slot]
		}
		if old, ok := next[state]; !ok || total < old {
			next[state] = total
		}
	}
	choose(0, state, 0)
}

// cappedTo is a site that draws at most a peak.
func cappedTo(s api.Site, peak int64) api.Site {
	s.Limit = slices.Clone(s.Limit)
	for slot := range s.Limit {
		s.Limit[slot] = min(s.Limit[slot], peak)
	}
	return s
}

// assignments yields all assignments, the first one first, and their totals.
func assignments(costs [][]int64) iter.Seq2[[]int, int64] {
	return func(yield func(cars []int, total int64) bool) {
		var next func(cars []int, total int64) bool
		next = func(cars []int, total int64) bool {
			if len(cars) == len(costs) {
				return yield(slices.Clone(cars), total)
			}
			for car, cost := range costs[len(cars)] {
				if cost >= 0 && !slices.Contains(cars, car) && !next(append(slices.Clone(cars), car), total+cost) {
					return false
				}
			}
			return true
		}
		next(nil, 0)
	}
}

// bestAssignment is the first of the assignments with the least total; ok is false if there is none.
func bestAssignment(costs [][]int64) (best []int, least int64, ok bool) {
	for cars, total := range assignments(costs) {
		if !ok || total < least {
			best, least, ok = cars, total, true
		}
	}
	return best, least, ok
}

// wantAssign is what CheckAssign has to return for valid costs.
func wantAssign(costs [][]int64, m api.Match) api.Errno {
	if len(m.Cars) != len(costs) || len(m.Routes) != len(costs) || len(m.Prices) != len(costs[0]) {
		return api.ErrEqual
	}
	for _, car := range m.Cars {
		if car < 0 || car >= len(costs[0]) {
			return api.ErrRange
		}
	}
	sum := int64(0)
	for _, price := range slices.Concat(m.Routes, m.Prices) {
		if price < -quantities || price > quantities {
			return api.ErrRange
		}
		sum += price
	}
	if sum != m.Total || slices.Max(m.Prices) > 0 {
		return api.ErrSum
	}
	for route, car := range m.Cars {
		sum -= costs[route][car]
		if costs[route][car] < 0 || slices.Contains(m.Cars[:route], car) {
			return api.ErrSum
		}
		for other, cost := range costs[route] {
			if cost >= 0 && m.Routes[route]+m.Prices[other] > cost {
				return api.ErrSum
			}
		}
	}
	if sum != 0 {
		return api.ErrSum
	}
	return api.OK
}
