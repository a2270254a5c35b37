package pack_test

import (
	"math"
	"slices"
	"testing"

	"coulomb/api"
	"coulomb/pack"
)

// checkFewest checks a plan of Fewest: its flows and moves are what is wanted, its prices prove them, and CheckFewest accepts it.
func checkFewest(t *testing.T, x task, flows []int) {
	t.Helper()
	m, e := pack.Fewest(x.c, x.lo, x.hi)
	if e != api.OK || !slices.Equal(m.Flows, flows) || m.Count != movesOf(flows) {
		t.Errorf("Fewest of %v: %v, %d, not %v", x, m, e, flows)
		return
	}
	if len(m.Prices) != len(x.c) || !arePrices(m.Prices) || x.proofOf(m.Prices) != m.Count {
		t.Errorf("Fewest of %v: the prices %v do not prove %d", x, m.Prices, m.Count)
	}
	if e := pack.CheckFewest(x.c, x.lo, x.hi, m); e != api.OK {
		t.Errorf("CheckFewest of %v and %v: %d", x, m, e)
	}
}

// P4.7, P4.14, G3: plans that can be found by hand.
func TestFewest(t *testing.T) {
	top, slope := slices.Concat(slices.Repeat([]int{100}, 8), make([]int, 8)), []int{50, 100, 150, 200, 250, 300, 350, 400, 350, 300, 250, 200, 150, 100, 50}
	bottom, down := slices.Clone(top), slices.Clone(slope)
	slices.Reverse(bottom)
	for i := range down {
		down[i] = -down[i]
	}
	for _, x := range []struct {
		task
		flows []int
	}{
		{task{[]int{8, 0, 4}, 4, 4}, []int{4, 0}},
		{task{[]int{8, 0, 4}, 3, 5}, []int{3, 0}},
		{task{[]int{8, 0, 4}, 0, 8}, []int{0, 0}},
		{task{[]int{5, 4, 4, 3}, 4, 4}, []int{1, 1, 1}},
		{task{[]int{3, 4, 4, 5}, 4, 4}, []int{-1, -1, -1}},
		{task{[]int{4, 10, 4}, 4, 9}, []int{-1, 0}}, // to the left, or to the right
		{task{[]int{4, 2, 4}, 3, 9}, []int{0, -1}},  // from the right, as -1 is less than 1, but 0 less than 1 in front
		{task{[]int{0, 9, 0}, 0, 5}, []int{-4, 0}},
		{task{[]int{4, 9, 0}, 0, 5}, []int{-1, 3}},
		{task{[]int{7}, 0, 9}, nil},
		{task{[]int{7}, 7, 7}, nil},
		{task{[]int{0}, 0, 0}, nil},
		{task{[]int{100}, 100, 100}, nil},
		{task{[]int{100, 0}, 50, 50}, []int{50}},
		{task{slices.Repeat([]int{100}, 16), 100, 100}, make([]int, 15)},
		{task{make([]int, 16), 0, 0}, make([]int, 15)},
		{task{top, 50, 50}, slope},
		{task{bottom, 50, 50}, down},
		{task{top, 0, 100}, make([]int, 15)},
	} {
		checkFewest(t, x.task, x.flows)
	}
}

// P4.7, P4.14, G3: for few groups no flows of all that there are have fewer moves, or as few and are before.
func TestFewestOfAllFlows(t *testing.T) {
	for x := range smallTasks() {
		if x.isPossible() {
			checkFewest(t, x, x.tried(movesOf))
		} else if m, e := pack.Fewest(x.c, x.lo, x.hi); e != api.ErrPlan || len(m.Flows) != 0 || m.Count != 0 || len(m.Prices) != 0 {
			t.Errorf("Fewest of %v: %v, %d", x, m, e)
		}
	}
}

// drawTask draws levels and a band, which is often around the mean of the levels, so that there are flows.
func drawTask(i int) task {
	r := chance(int64(i))
	c := drawLevels(r, 1+r.Intn(16), pick(r, 5, 20, 100))
	mean := sumOf(c) / len(c)
	x := task{c, max(0, mean-r.Intn(6)), min(100, mean+r.Intn(7))}
	if r.Intn(8) == 0 {
		x.lo = r.Intn(101)
		x.hi = x.lo + r.Intn(101-x.lo)
	}
	return x
}

// P4.7, P4.14, G3: for more groups.
func TestFewestOfDrawnLevels(t *testing.T) {
	possible := 0
	for i := range 600 {
		x := drawTask(i)
		w, ok := x.found(2000, amount)
		if ok != x.isPossible() {
			t.Fatalf("the flows of %v: %t", x, ok)
		}
		if ok {
			checkFewest(t, x, w.flows)
			possible++
		} else if m, e := pack.Fewest(x.c, x.lo, x.hi); e != api.ErrPlan || len(m.Flows) != 0 || m.Count != 0 || len(m.Prices) != 0 {
			t.Errorf("Fewest of %v: %v, %d", x, m, e)
		}
	}
	if possible < 300 {
		t.Errorf("just %d of the levels come into the band", possible)
	}
}

// P4.7, R1: the errors of levels, then of the band, then a sum that does not fit.
func TestFewestErrors(t *testing.T) {
	check := func(c []int, lo, hi int, want api.Errno) {
		t.Helper()
		if m, e := pack.Fewest(c, lo, hi); e != want || len(m.Flows) != 0 || m.Count != 0 || len(m.Prices) != 0 {
			t.Errorf("Fewest of %v, %d, %d: %v, %d, not %d", c, lo, hi, m, e, want)
		}
		if q, e := pack.Quickest(c, lo, hi); e != want || len(q.Flows) != 0 || q.Ticks != 0 || q.From != 0 || q.To != 0 {
			t.Errorf("Quickest of %v, %d, %d: %v, %d, not %d", c, lo, hi, q, e, want)
		}
	}
	for e, list := range wildLevels() {
		for _, c := range list {
			check(c, 0, 100, e)
			check(c, 5, 4, e)
		}
	}
	for _, band := range wildBands() {
		check([]int{5, 5}, band[0], band[1], api.ErrArg)
		check([]int{0, 100}, band[0], band[1], api.ErrArg)
	}
	for _, x := range []task{{[]int{1, 1}, 2, 9}, {[]int{1, 2}, 2, 9}, {[]int{9, 10}, 2, 9}, {[]int{0}, 1, 1}, {[]int{2}, 1, 1}, {[]int{100, 100, 100}, 0, 99}, {[]int{0, 0, 2}, 1, 100}, {slices.Repeat([]int{100}, 16), 0, 99}} {
		check(x.c, x.lo, x.hi, api.ErrPlan)
	}
	for _, x := range []task{{[]int{1, 3}, 2, 9}, {[]int{8, 10}, 2, 9}, {[]int{100, 100, 98}, 0, 100}, {[]int{0, 0, 3}, 1, 100}} { // just enough
		if _, e := pack.Fewest(x.c, x.lo, x.hi); e != api.OK {
			t.Errorf("Fewest of %v: %d", x, e)
		}
	}
}

// P4.8: plans that are right, and plans that are wrong in one thing each.
func TestCheckFewest(t *testing.T) {
	for _, x := range []struct {
		name string
		task
		m api.Moves
		e api.Errno
	}{
		{"the plan of Fewest", task{[]int{8, 0, 4}, 4, 4}, api.Moves{Flows: []int{4, 0}, Count: 4, Prices: []int{1, 0, 0}}, api.OK},
		{"other prices", task{[]int{8, 0, 4}, 4, 4}, api.Moves{Flows: []int{4, 0}, Count: 4, Prices: []int{16, 15, 15}}, api.OK},
		{"other prices, below 0", task{[]int{8, 0, 4}, 4, 4}, api.Moves{Flows: []int{4, 0}, Count: 4, Prices: []int{-15, -16, -16}}, api.OK},
		{"flows that are not the first ones", task{[]int{4, 10, 4}, 4, 9}, api.Moves{Flows: []int{0, 1}, Count: 1, Prices: []int{0, 1, 0}}, api.OK},
		{"one group", task{[]int{7}, 0, 9}, api.Moves{Prices: []int{0}}, api.OK},
		{"one group at a great price", task{[]int{7}, 7, 7}, api.Moves{Flows: []int{}, Prices: []int{-16}}, api.OK},
		{"too few flows", task{[]int{8, 0, 4}, 4, 4}, api.Moves{Flows: []int{4}, Count: 4, Prices: []int{1, 0, 0}}, api.ErrEqual},
		{"too many flows", task{[]int{8, 0, 4}, 4, 4}, api.Moves{Flows: []int{4, 0, 0}, Count: 4, Prices: []int{1, 0, 0}}, api.ErrEqual},
		{"no flows", task{[]int{8, 0, 4}, 4, 4}, api.Moves{Count: 4, Prices: []int{1, 0, 0}}, api.ErrEqual},
		{"a flow that is too great comes before the prices", task{[]int{8, 0, 4}, 4, 4}, api.Moves{Flows: []int{4, 2001}, Count: 4}, api.ErrRange},
		{"a flow that is too small", task{[]int{8, 0, 4}, 4, 4}, api.Moves{Flows: []int{-2001, 0}, Count: 4, Prices: []int{1, 0, 0}}, api.ErrRange},
		{"a great flow", task{[]int{8, 0, 4}, 4, 4}, api.Moves{Flows: []int{-2000, 2000}, Count: 4, Prices: []int{1, 0, 0}}, api.ErrSum},
		{"too few prices", task{[]int{8, 0, 4}, 4, 4}, api.Moves{Flows: []int{4, 0}, Count: 4, Prices: []int{1, 0}}, api.ErrEqual},
		{"too many prices", task{[]int{8, 0, 4}, 4, 4}, api.Moves{Flows: []int{4, 0}, Count: 4, Prices: []int{1, 0, 0, 5}}, api.ErrEqual},
		{"no prices, and a wrong count", task{[]int{8, 0, 4}, 4, 4}, api.Moves{Flows: []int{4, 0}, Count: 5}, api.ErrEqual},
		{"a price above all", task{[]int{8, 0, 4}, 4, 4}, api.Moves{Flows: []int{4, 0}, Count: 4, Prices: []int{17, 16, 16}}, api.ErrArg},
		{"a price below all", task{[]int{8, 0, 4}, 4, 4}, api.Moves{Flows: []int{4, 0}, Count: 4, Prices: []int{-16, -17, -17}}, api.ErrArg},
		{"prices that fall by 2", task{[]int{8, 0, 4}, 4, 4}, api.Moves{Flows: []int{4, 0}, Count: 8, Prices: []int{2, 0, 0}}, api.ErrArg},
		{"prices that rise by 2, and a wrong count", task{[]int{8, 0, 4}, 4, 4}, api.Moves{Flows: []int{4, 0}, Count: 3, Prices: []int{0, 0, 2}}, api.ErrArg},
		{"levels that are not in the band", task{[]int{8, 0, 4}, 4, 4}, api.Moves{Flows: []int{4, 1}, Count: 5, Prices: []int{1, 0, 0}}, api.ErrSum},
		{"levels above the band", task{[]int{9, 0, 4}, 4, 4}, api.Moves{Flows: []int{4, 0}, Count: 4, Prices: []int{0, -1, -1}}, api.ErrSum},
		{"levels below the band", task{[]int{8, 0, 3}, 4, 4}, api.Moves{Flows: []int{4, 0}, Count: 4, Prices: []int{1, 0, 0}}, api.ErrSum},
		{"a count that is not that of the flows, but is proved", task{[]int{8, 0, 4}, 4, 4}, api.Moves{Flows: []int{4, 0}, Count: 0, Prices: []int{0, 0, 0}}, api.ErrSum},
		{"a count that is that of the flows, but is not proved", task{[]int{8, 0, 4}, 4, 4}, api.Moves{Flows: []int{4, 0}, Count: 4, Prices: []int{1, 1, 0}}, api.ErrSum},
		{"a plan with more moves than there have to be", task{[]int{8, 0, 4}, 3, 5}, api.Moves{Flows: []int{4, 0}, Count: 4, Prices: []int{1, 0, 0}}, api.ErrSum},
		{"a count below 0", task{[]int{8, 0, 4}, 4, 4}, api.Moves{Flows: []int{4, 0}, Count: -4, Prices: []int{1, 0, 0}}, api.ErrSum},
		{"a great count", task{[]int{8, 0, 4}, 4, 4}, api.Moves{Flows: []int{4, 0}, Count: math.MaxInt, Prices: []int{1, 0, 0}}, api.ErrSum},
	} {
		if e := pack.CheckFewest(x.c, x.lo, x.hi, x.m); e != x.e {
			t.Errorf("%s: CheckFewest of %v and %v: %d, not %d", x.name, x.task, x.m, e, x.e)
		}
	}
}

// P4.8, R1: the errors of levels, of the band, and of the flows, one after the other.
func TestCheckFewestErrors(t *testing.T) {
	for e, list := range wildLevels() {
		for _, c := range list {
			for _, m := range []api.Moves{{}, {Flows: make([]int, max(len(c)-1, 0)), Prices: make([]int, len(c))}} {
				for _, hi := range []int{100, -1} {
					if got := pack.CheckFewest(c, 0, hi, m); got != e {
						t.Errorf("CheckFewest of %v: %d, not %d", c, got, e)
					}
				}
			}
		}
	}
	for _, band := range wildBands() {
		for _, m := range []api.Moves{{}, {Flows: []int{0, 0}, Prices: []int{0, 0, 0}}, {Flows: []int{2001, 0}}} {
			if e := pack.CheckFewest([]int{1, 2, 3}, band[0], band[1], m); e != api.ErrArg {
				t.Errorf("CheckFewest with %v: %d", band, e)
			}
		}
	}
	for e, list := range wildFlows() {
		for _, flows := range list {
			for _, prices := range [][]int{nil, {0, 0, 0}, {17, 0, 0}} {
				if got := pack.CheckFewest([]int{1, 2, 3}, 0, 100, api.Moves{Flows: flows, Prices: prices}); got != e {
					t.Errorf("CheckFewest of %v: %d, not %d", flows, got, e)
				}
			}
		}
	}
	for _, price := range []int{math.MinInt, -17, 17, math.MaxInt} {
		for i := range 3 {
			prices := []int{0, 0, 0}
			prices[i] = price
			if e := pack.CheckFewest([]int{1, 2, 3}, 0, 100, api.Moves{Flows: []int{0, 0}, Prices: prices}); e != api.ErrArg {
				t.Errorf("CheckFewest with the prices %v: %d", prices, e)
			}
		}
	}
}

// P4.8, P4.14, G3: of all plans of two groups just those are accepted of which the definition says so; none of them is beaten.
func TestCheckFewestOfAllPlans(t *testing.T) {
	accepted := 0
	for c := range lists(2, 0, 3) {
		for lo, hi := range bandsUpTo(3) {
			x := task{c, lo, hi}
			best := movesOf(x.tried(movesOf))
			for flow := -3; flow <= 3; flow++ {
				for prices := range lists(2, -2, 2) {
					for count := -1; count <= 4; count++ {
						want := api.ErrSum
						if !arePrices(prices) {
							want = api.ErrArg
						} else if isInBand(levelsBehind(c, []int{flow}), lo, hi) && count == amount(flow) && count == x.proofOf(prices) {
							want = api.OK
						}
						e := pack.CheckFewest(c, lo, hi, api.Moves{Flows: []int{flow}, Count: count, Prices: prices})
						if e != want {
							t.Errorf("CheckFewest of %v, %d, %d and %v: %d, not %d", x, flow, count, prices, e, want)
						}
						if e == api.OK {
							accepted++
							if count != best {
								t.Errorf("CheckFewest of %v, %d, %d and %v: but there are flows with %d moves", x, flow, count, prices, best)
							}
						}
					}
				}
			}
		}
	}
	if accepted < 100 {
		t.Errorf("just %d plans are accepted", accepted)
	}
}

// P4.8, P4.14: drawn flows behind which the levels are in the band have no fewer moves than drawn prices prove; they are accepted if they have just as many.
func TestNotBeaten(t *testing.T) {
	r := chance(9)
	for i := range 1500 {
		x := drawTask(i)
		m, e := pack.Fewest(x.c, x.lo, x.hi)
		if e != api.OK {
			continue
		}
		prices := []int{r.Intn(9) - 4}
		for len(prices) < len(x.c) {
			prices = append(prices, prices[len(prices)-1]+r.Intn(3)-1)
		}
		flows := slices.Clone(m.Flows)
		for range r.Intn(3) {
			if len(flows) > 0 {
				flows[r.Intn(len(flows))] += r.Intn(3) - 1
			}
		}
		inBand, count, proof := isInBand(levelsBehind(x.c, flows), x.lo, x.hi), movesOf(flows), x.proofOf(prices)
		if inBand && count < max(m.Count, proof) {
			t.Errorf("the flows %v of %v have %d moves, fewer than %d or %d", flows, x, count, m.Count, proof)
		}
		for _, p := range [][]int{prices, m.Prices} {
			want := api.ErrSum
			if inBand && x.proofOf(p) == count {
				want = api.OK
			}
			if e := pack.CheckFewest(x.c, x.lo, x.hi, api.Moves{Flows: flows, Count: count, Prices: p}); e != want {
				t.Errorf("CheckFewest of %v, %v and %v: %d, not %d", x, flows, p, e, want)
			}
		}
	}
}
