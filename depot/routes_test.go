package depot_test

import (
	"math"
	"math/rand"
	"slices"
	"testing"

	"coulomb/api"
	"coulomb/depot"
)

// wildCosts are no costs.
func wildCosts() []wrong[[][]int64] {
	row := func(n int) []int64 { return make([]int64, n) }
	many, unequal := api.ErrMany, api.ErrEqual
	l := []wrong[[][]int64]{
		{nil, many}, {[][]int64{}, many}, {numbersOf(mostRoutes+1, 9, 1), many}, {numbersOf(mostRoutes+1, 1, 1), many}, {numbersOf(5000, 1, 1), many}, {[][]int64{nil}, many}, {[][]int64{{}}, many}, {numbersOf(3, 0, 1), many}, {numbersOf(1, mostCars+1, 1), many}, {numbersOf(1, 5000, 1), many},
		{[][]int64{{}, {1}}, many}, {[][]int64{row(mostCars + 1), {1}}, many}, {numbersOf(1, mostCars+1, -2), many}, {numbersOf(mostRoutes+1, 1, -2), many}, // ErrMany is before the others
		{[][]int64{{1}, {1, 2}}, unequal}, {[][]int64{{1, 2}, {1}}, unequal}, {[][]int64{{1, 2}, nil}, unequal}, {[][]int64{{1, 2}, {1, 2}, {1}}, unequal}, {[][]int64{row(mostCars), row(mostCars + 1)}, unequal}, {[][]int64{{1, 2}, {1, 2}, {1, 2, 3}, {1, 2}}, unequal}, {[][]int64{{-2}, {1, 2}}, unequal}, {[][]int64{{1, 2}, {mostPrice + 1}}, unequal},
	}
	for _, x := range beyond(-1, mostPrice) {
		l = append(l, wrong[[][]int64]{[][]int64{{x}}, api.ErrRange}, wrong[[][]int64]{[][]int64{{1, x}, {1, 1}}, api.ErrRange}, wrong[[][]int64]{[][]int64{{1, 1, 1}, {1, 1, 1}, {1, 1, x}}, api.ErrRange})
	}
	return l
}

// sameMatch checks an assignment without its prices.
func sameMatch(t *testing.T, m api.Match, cars []int, total int64, costs [][]int64) {
	t.Helper()
	sameList(t, m.Cars, cars, "Assign", costs)
	same(t, m.Total, total, "the total of Assign", costs)
}

// checkNoMatch checks that Assign returns an error, and nothing else.
func checkNoMatch(t *testing.T, costs [][]int64, want api.Errno) {
	t.Helper()
	m, e := depot.Assign(costs)
	sameMatch(t, m, nil, 0, costs)
	sameList(t, m.Routes, nil, "Assign, prices of routes", costs)
	sameList(t, m.Prices, nil, "Assign, prices of cars", costs)
	same(t, e, want, "Assign", costs)
}

// P8.11: costs that are not valid; their error comes before all others.
func TestWildCosts(t *testing.T) {
	for _, x := range wildCosts() {
		checkNoMatch(t, x.x, x.e)
		for _, m := range []api.Match{{}, {Cars: []int{-1}, Routes: []int64{math.MaxInt64}, Prices: []int64{1}}, {Cars: make([]int, len(x.x)), Routes: make([]int64, len(x.x)), Prices: make([]int64, 2)}} {
			same(t, depot.CheckAssign(x.x, m), x.e, "CheckAssign", x.x, m)
		}
	}
}

// checkAssign checks what Assign returns, by the definitions.
func checkAssign(t *testing.T, costs [][]int64) bool {
	t.Helper()
	cars, total, ok := bestAssignment(costs)
	if !ok {
		checkNoMatch(t, costs, api.ErrPlan)
		return false
	}
	m, e := depot.Assign(costs)
	sameMatch(t, m, cars, total, costs)
	same(t, e, api.OK, "Assign", costs)
	same(t, wantAssign(costs, m), api.OK, "the definition, for Assign", costs, m)
	same(t, depot.CheckAssign(costs, m), api.OK, "CheckAssign", costs, m)
	return true
}

// P8.11: assignments by hand.
func TestAssignByHand(t *testing.T) {
	for _, x := range []struct {
		costs [][]int64
		cars  []int
		total int64
	}{
		{[][]int64{{4, 1}, {2, 3}}, []int{1, 0}, 3}, {[][]int64{{0}}, []int{0}, 0}, {[][]int64{{mostPrice}}, []int{0}, mostPrice}, {[][]int64{{-1, 7}}, []int{1}, 7}, {[][]int64{{7, -1}}, []int{0}, 7}, {[][]int64{{7, 7, 7}}, []int{0}, 7}, {[][]int64{{7, 6, 6}}, []int{1}, 6},
		{[][]int64{{5, 5, 9}, {5, 5, -1}, {7, 8, 8}}, []int{0, 1, 2}, 18}, {[][]int64{{1, 1}, {1, 1}}, []int{0, 1}, 2}, {[][]int64{{1, 1}, {-1, 1}}, []int{0, 1}, 2}, {[][]int64{{1, 1}, {1, -1}}, []int{1, 0}, 2}, {[][]int64{{1, 2}, {2, 3}}, []int{0, 1}, 4}, {[][]int64{{1, 2}, {2, 4}}, []int{1, 0}, 4}, {[][]int64{{0, 9}, {0, mostPrice}}, []int{1, 0}, 9},
		{[][]int64{{-1, -1, 3}, {-1, 3, 3}, {3, 3, 3}}, []int{2, 1, 0}, 9}, {[][]int64{{3, 3, 3}, {3, 3, 3}}, []int{0, 1}, 6}, {[][]int64{{3, 3, 2}, {3, 3, 2}}, []int{0, 2}, 5}, {numbersOf(mostRoutes, mostCars, mostPrice), []int{0, 1, 2, 3, 4, 5, 6, 7}, mostRoutes * mostPrice}, {numbersOf(mostRoutes, mostCars, 0), []int{0, 1, 2, 3, 4, 5, 6, 7}, 0}, {numbersOf(1, mostCars, 5), []int{0}, 5},
	} {
		m, e := depot.Assign(x.costs)
		sameMatch(t, m, x.cars, x.total, x.costs)
		same(t, e, api.OK, "Assign", x.costs)
		checkAssign(t, x.costs)
	}
	for _, costs := range [][][]int64{{{1, 1}, {-1, -1}}, {{-1}}, {{1}, {1}}, {{1, -1}, {1, -1}}, {{1, 1, -1}, {1, 1, -1}, {1, 1, -1}}, numbersOf(mostRoutes, mostCars-1, 1), numbersOf(mostRoutes, mostCars, -1), numbersOf(mostRoutes, 1, 1)} {
		checkNoMatch(t, costs, api.ErrPlan)
	}
}

// P8.11, P8.18, G3: all costs from -1 to 1 of small fleets, and drawn costs: all assignments are tried.
func TestAssignTried(t *testing.T) {
	for _, size := range [][2]int{{1, 1}, {1, 3}, {2, 1}, {2, 2}, {2, 3}, {3, 2}} {
		for n := range 729 {
			costs := numbersOf(size[0], size[1], 0)
			for i := range size[0] * size[1] {
				costs[i/size[1]][i%size[1]] = int64(n%3) - 1
				n /= 3
			}
			checkAssign(t, costs)
		}
	}
	r := chance(815)
	assigned := 0
	for range 1500 {
		if checkAssign(t, drawCosts(r, 1+r.Intn(5), 1+r.Intn(6), pick[int64](r, 0, 1, 3, 9, mostPrice))) {
			assigned++
		}
	}
	if assigned < 400 || assigned > 1400 {
		t.Errorf("%d fleets have an assignment", assigned)
	}
	for _, most := range []int64{1, 9, mostPrice} {
		checkAssign(t, drawCosts(r, mostRoutes, mostCars, most))
	}
}

// P8.11: errors of CheckAssign, in their order, and what it accepts.
func TestCheckAssignErrors(t *testing.T) {
	costs := [][]int64{{4, 1, 9}, {2, 3, -1}}
	good := api.Match{Cars: []int{1, 0}, Total: 3, Routes: []int64{1, 2}, Prices: []int64{0, 0, 0}}
	for _, x := range []struct {
		change change[api.Match]
		want   api.Errno
	}{
		{func(m *api.Match) {}, api.OK}, {func(m *api.Match) { m.Routes, m.Prices = []int64{4, 2}, []int64{0, -3, 0} }, api.OK}, {func(m *api.Match) { m.Routes, m.Prices = []int64{4, 4}, []int64{-2, -3, 0} }, api.OK}, {func(m *api.Match) { m.Routes, m.Prices = []int64{5, 4}, []int64{-2, -4, 0} }, api.OK}, {func(m *api.Match) { m.Routes, m.Prices = []int64{1, 3}, []int64{-1, 0, 0} }, api.OK},
		{func(m *api.Match) { m.Cars = []int{1} }, api.ErrEqual}, {func(m *api.Match) { m.Cars = nil }, api.ErrEqual}, {func(m *api.Match) { m.Cars = []int{1, 0, 2} }, api.ErrEqual}, {func(m *api.Match) { m.Routes = []int64{1} }, api.ErrEqual}, {func(m *api.Match) { m.Routes = []int64{1, 2, 0} }, api.ErrEqual}, {func(m *api.Match) { m.Prices = []int64{0, 0} }, api.ErrEqual}, {func(m *api.Match) { m.Prices = []int64{0, 0, 0, 0} }, api.ErrEqual}, {func(m *api.Match) { m.Prices = nil }, api.ErrEqual},
		{func(m *api.Match) { m.Cars, m.Prices = []int{-1, 9}, []int64{0, 0} }, api.ErrEqual}, {func(m *api.Match) { m.Cars, m.Routes = []int{1, 0, 5}, []int64{math.MaxInt64} }, api.ErrEqual},
		{func(m *api.Match) { m.Cars = []int{1, -1} }, api.ErrRange}, {func(m *api.Match) { m.Cars = []int{3, 0} }, api.ErrRange}, {func(m *api.Match) { m.Cars, m.Total = []int{1 << 32, 0}, 9 }, api.ErrRange}, {func(m *api.Match) { m.Cars = []int{math.MinInt, math.MaxInt} }, api.ErrRange}, {func(m *api.Match) { m.Cars = []int{0, 3} }, api.ErrRange}, {func(m *api.Match) { m.Cars, m.Prices = []int{0, 3}, []int64{1, 1, 1} }, api.ErrRange},
		{func(m *api.Match) { m.Cars = []int{0, 1} }, api.ErrSum}, {func(m *api.Match) { m.Cars, m.Total = []int{0, 1}, 7 }, api.ErrSum}, {func(m *api.Match) { m.Cars = []int{0, 0} }, api.ErrSum}, {func(m *api.Match) { m.Cars = []int{1, 1} }, api.ErrSum}, {func(m *api.Match) { m.Cars = []int{1, 2} }, api.ErrSum}, {func(m *api.Match) { m.Cars, m.Total, m.Routes = []int{1, 2}, 0, []int64{1, -1} }, api.ErrSum}, {func(m *api.Match) { m.Cars, m.Total, m.Routes = []int{1, 1}, 4, []int64{1, 3} }, api.ErrSum},
		{func(m *api.Match) { m.Total = 4 }, api.ErrSum}, {func(m *api.Match) { m.Total = 2 }, api.ErrSum}, {func(m *api.Match) { m.Total = math.MinInt64 }, api.ErrSum}, {func(m *api.Match) { m.Total, m.Routes = 4, []int64{1, 3} }, api.ErrSum}, {func(m *api.Match) { m.Total, m.Routes = 2, []int64{0, 2} }, api.ErrSum}, {func(m *api.Match) { m.Total = 3 + 1<<32 }, api.ErrSum},
		{func(m *api.Match) { m.Routes = []int64{2, 2} }, api.ErrSum}, {func(m *api.Match) { m.Routes = []int64{0, 2} }, api.ErrSum}, {func(m *api.Match) { m.Routes = []int64{2, 1} }, api.ErrSum}, {func(m *api.Match) { m.Routes, m.Prices = []int64{0, 2}, []int64{0, 1, 0} }, api.ErrSum}, {func(m *api.Match) { m.Routes, m.Prices = []int64{1, 1}, []int64{0, 0, 1} }, api.ErrSum}, {func(m *api.Match) { m.Routes, m.Prices = []int64{1, 3}, []int64{0, 0, -1} }, api.ErrSum}, {func(m *api.Match) { m.Routes, m.Prices = []int64{1, 4}, []int64{-2, 0, 0} }, api.ErrSum}, {func(m *api.Match) { m.Routes, m.Prices = []int64{10, 2}, []int64{0, -9, 0} }, api.ErrSum},
	} {
		m := with(good, x.change)
		same(t, depot.CheckAssign(costs, m), x.want, "CheckAssign", m)
	}
	for _, x := range beyond(-quantities, quantities) {
		for _, change := range []change[api.Match]{func(m *api.Match) { m.Routes = []int64{x, 2} }, func(m *api.Match) { m.Routes = []int64{1, x} }, func(m *api.Match) { m.Prices = []int64{0, 0, x} }, func(m *api.Match) { m.Prices = []int64{x, -x, 0} }, func(m *api.Match) { m.Cars, m.Prices = []int{0, 0}, []int64{x, x, x} }, func(m *api.Match) { m.Routes = []int64{x, 3 - x} }} {
			same(t, depot.CheckAssign(costs, with(good, change)), api.ErrRange, "CheckAssign", x)
		}
	}
	for _, x := range []int64{-quantities, quantities} {
		far := api.Match{Cars: []int{0}, Total: 5, Routes: []int64{x}, Prices: []int64{5 - x}}
		same(t, depot.CheckAssign([][]int64{{5}}, far), map[bool]api.Errno{true: api.OK, false: api.ErrRange}[x > 0], "CheckAssign", far)
		far = api.Match{Cars: []int{0}, Total: 5, Routes: []int64{-x}, Prices: []int64{x}}
		same(t, depot.CheckAssign([][]int64{{5}}, far), api.ErrSum, "CheckAssign", far)
		far.Total = 0
		same(t, depot.CheckAssign([][]int64{{0}}, far), map[bool]api.Errno{true: api.ErrSum, false: api.OK}[x > 0], "CheckAssign", far) // no price of a car is above 0
	}
}

// drawMatch draws an assignment with prices: the one that is given, often changed.
func drawMatch(r *rand.Rand, costs [][]int64, m api.Match) api.Match {
	m = api.Match{Cars: slices.Clone(m.Cars), Total: m.Total, Routes: slices.Clone(m.Routes), Prices: slices.Clone(m.Prices)}
	for range r.Intn(3) {
		route, car := r.Intn(len(costs)), r.Intn(len(costs[0]))
		switch r.Intn(6) {
		case 0:
			m.Cars[route] = drawAny(r, car, -1, len(costs[0]))
		case 1:
			m.Routes[route] += pick[int64](r, -1, 1)
		case 2:
			m.Prices[car] += pick[int64](r, -1, 1)
		case 3:
			m.Routes[route]++
			m.Prices[car]--
		case 4:
			m.Total += pick[int64](r, -1, 1)
		case 5:
			m.Cars[route], m.Cars[0] = m.Cars[0], m.Cars[route]
		}
	}
	return m
}

// P8.11, P8.18: drawn assignments and prices: they are accepted just as it is defined, and no assignment has a total below what is proved.
func TestCheckAssignDrawn(t *testing.T) {
	r := chance(816)
	count := map[api.Errno]int{}
	for range 3000 {
		costs := drawCosts(r, 1+r.Intn(4), 1+r.Intn(5), pick[int64](r, 0, 1, 2, 9))
		m, e := depot.Assign(costs)
		if e != api.OK {
			continue
		}
		m = drawMatch(r, costs, m)
		want := wantAssign(costs, m)
		same(t, depot.CheckAssign(costs, m), want, "CheckAssign", costs, m)
		count[want]++
		if _, least, _ := bestAssignment(costs); want == api.OK && m.Total != least {
			t.Errorf("%v: %v is accepted, but the least total is %d", costs, m, least)
		}
	}
	if count[api.OK] < 500 || count[api.ErrSum] < 300 || count[api.ErrRange] < 20 {
		t.Errorf("the errors are %v", count)
	}
}
