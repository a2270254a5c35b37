package pack_test

import (
	"iter"
	"slices"
)

// levelsBehind are the levels behind flows.
func levelsBehind(c, flows []int) []int {
	levels := slices.Clone(c)
	for i, flow := range flows {
		levels[i] -= flow
		levels[i+1] += flow
	}
	return levels
}

// isInBand reports whether levels are in a band.
func isInBand(c []int, lo, hi int) bool { return slices.Min(c) >= lo && slices.Max(c) <= hi }

// amount is the amount of a number.
func amount(x int) int { return max(x, -x) }

// movesOf are the moves of flows.
func movesOf(flows []int) int {
	sum := 0
	for _, flow := range flows {
		sum += amount(flow)
	}
	return sum
}

// ticksOf are the ticks of flows.
func ticksOf(flows []int) int {
	greatest := 0
	for _, flow := range flows {
		greatest = max(greatest, amount(flow))
	}
	return greatest
}

// lists yields all lists of n numbers from lo to hi, the first one first.
func lists(n, lo, hi int) iter.Seq[[]int] {
	return func(yield func(l []int) bool) {
		l := slices.Repeat([]int{lo}, n)
		for {
			if !yield(l) {
				return
			}
			i := n - 1
			for i >= 0 && l[i] == hi {
				l[i] = lo
				i--
			}
			if i < 0 {
				return
			}
			l[i]++
		}
	}
}

// bandsUpTo yields all bands up to a level.
func bandsUpTo(greatest int) iter.Seq2[int, int] {
	return func(yield func(lo, hi int) bool) {
		for lo := range greatest + 1 {
			for hi := lo; hi <= greatest; hi++ {
				if !yield(lo, hi) {
					return
				}
			}
		}
	}
}

// task is levels and a band.
type task struct {
	c      []int
	lo, hi int
}

// smallTasks yields all levels of few groups, with all bands.
func smallTasks() iter.Seq[task] {
	return func(yield func(x task) bool) {
		for n, greatest := range map[int]int{1: 8, 2: 6, 3: 4, 4: 3} {
			for c := range lists(n, 0, greatest) {
				for lo, hi := range bandsUpTo(greatest) {
					if !yield(task{slices.Clone(c), lo, hi}) {
						return
					}
				}
			}
		}
	}
}

// isPossible reports whether there are flows behind which the levels are in the band.
func (x task) isPossible() bool {
	return x.lo*len(x.c) <= sumOf(x.c) && sumOf(x.c) <= x.hi*len(x.c)
}

// tried is the first of all flows with the least measure behind which the levels are in the band: of all flows that are possible, one after the other.
func (x task) tried(measure func(flows []int) int) []int {
	var best []int
	found := false
	for flows := range lists(len(x.c)-1, -6, 6) {
		if isInBand(levelsBehind(x.c, flows), x.lo, x.hi) && (!found || measure(flows) < measure(best)) {
			best, found = slices.Clone(flows), true
		}
	}
	return best
}

// way is flows out of the first groups, and what they cost.
type way struct {
	cost  int
	flows []int
}

// isBefore reports whether a way is better than another one, or as good and before it.
func (w way) isBefore(v way) bool {
	return w.cost < v.cost || w.cost == v.cost && slices.Compare(w.flows, v.flows) < 0
}

// found is the first of the flows up to a greatest amount that cost the least: group by group, the best way to each flow.
func (x task) found(greatest int, cost func(flow int) int) (way, bool) {
	ways := map[int]way{0: {}}
	for _, level := range x.c {
		next := map[int]way{}
		for in, w := range ways {
			for out := level + in - x.hi; out <= level+in-x.lo; out++ {
				if amount(out) > greatest {
					continue
				}
				old, ok := next[out]
				if ok && old.cost < w.cost+cost(out) {
					continue
				}
				if v := (way{w.cost + cost(out), append(slices.Clone(w.flows), out)}); !ok || v.isBefore(old) {
					next[out] = v
				}
			}
		}
		ways = next
	}
	w, ok := ways[0] // nothing goes out of the last group
	if !ok {
		return way{}, false
	}
	w.flows = w.flows[:len(x.c)-1]
	return w, true
}

// proofOf is what prices prove.
func (x task) proofOf(prices []int) int {
	sum := 0
	for i, p := range prices {
		sum += p*x.c[i] - max(p*x.lo, p*x.hi)
	}
	return sum
}

// arePrices reports whether some numbers are prices.
func arePrices(l []int) bool {
	for i, p := range l {
		if p < -16 || p > 16 || i > 0 && amount(p-l[i-1]) > 1 {
			return false
		}
	}
	return true
}

// needOf is what an interval needs; ok is false if it can never be balanced.
func (x task) needOf(from, to int) (need int, ok bool) {
	sum, m := sumOf(x.c[from:to+1]), to-from+1
	excess := max(0, sum-m*x.hi, m*x.lo-sum)
	switch {
	case from == 0 && to == len(x.c)-1:
		return 0, excess == 0
	case from == 0 || to == len(x.c)-1:
		return excess, true
	}
	return excess/2 + excess%2, true
}

// greatestNeed is the greatest need of all intervals, and the first one that has it.
func (x task) greatestNeed() (need, from, to int) {
	need = -1
	for i := range x.c {
		for j := i; j < len(x.c); j++ {
			if n, ok := x.needOf(i, j); ok && n > need {
				need, from, to = n, i, j
			}
		}
	}
	return need, from, to
}
