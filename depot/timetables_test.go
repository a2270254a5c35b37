package depot_test

import (
	"slices"
	"testing"

	"coulomb/api"
	"coulomb/depot"
)

// busy is a site of 4 slots, and cars with trips.
func busy() yard {
	s := api.Site{Limit: []int64{9, 9, 9, 9}, Export: []int64{0, 0, 4, 0}, Buy: []int64{1, 9, 20, 2}, Sell: []int64{0, 0, 15, 0}}
	return yard{s, []api.Car{with(car(10, 5, 3, 2, 2), trips(1, 2, 4)), car(6, 6, 6, 3, 3)}}
}

// usual is a timetable that is possible for them.
func usual() api.Timetable {
	return api.Timetable{In: [][]int64{{5, 0, 0, 2}, {0, 3, 0, 0}}, Out: [][]int64{{0, 0, 3, 0}, {1, 0, 1, 0}}}
}

// setting changes a number of a timetable.
func setting(out bool, i, slot int, x int64) change[api.Timetable] {
	return func(t *api.Timetable) {
		*t = cloneTable(*t)
		if out {
			t.Out[i][slot] = x
		} else {
			t.In[i][slot] = x
		}
	}
}

func takes(i, slot int, x int64) change[api.Timetable] { return setting(false, i, slot, x) }
func gives(i, slot int, x int64) change[api.Timetable] { return setting(true, i, slot, x) }

// checkPlan checks what all functions return that first check a plan.
func checkPlan(t *testing.T, s api.Site, cars []api.Car, table api.Timetable, want api.Errno) {
	t.Helper()
	same(t, depot.CheckPlan(s, cars, table), want, "CheckPlan", s, cars, table)
	levels, e := depot.Levels(s, cars, table)
	same(t, e, want, "Levels", s, cars, table)
	if want != api.OK {
		same(t, answerOf(depot.Price(s, cars, table)), bad[int64](want), "Price", s, cars, table)
		sameLists(t, levels, nil, "Levels", s, cars, table)
		for _, potentials := range [][]int64{nil, make([]int64, len(netOf(s, cars).Supply)), {mostPotential + 1}} {
			same(t, depot.CheckBest(s, cars, table, potentials), want, "CheckBest", s, cars, table)
		}
		for _, peak := range []int64{-1, 0, 1, mostCap, mostCap + 1} {
			same(t, depot.CheckPeak(s, cars, peak, table, nil), want, "CheckPeak", s, cars, table)
			same(t, depot.CheckPeak(s, cars, peak, table, []int{-1}), want, "CheckPeak", s, cars, table)
		}
		return
	}
	same(t, answerOf(depot.Price(s, cars, table)), good(priceOf(s, table)), "Price", s, cars, table)
	var all [][]int64
	for i, c := range cars {
		all = append(all, levelsOf(c, table.In[i], table.Out[i]))
	}
	sameLists(t, levels, all, "Levels", s, cars, table)
}

// P8.7: a timetable by hand, its cost and its levels.
func TestTimetableByHand(t *testing.T) {
	x := busy()
	checkPlan(t, x.s, x.cars, usual(), api.OK)
	same(t, answerOf(depot.Price(x.s, x.cars, usual())), good[int64](4*1+3*9-4*15+2*2), "Price")
	levels, e := depot.Levels(x.s, x.cars, usual())
	sameLists(t, levels, [][]int64{{2, 7, 3, 0, 2}, {3, 2, 5, 4, 4}}, "Levels")
	same(t, e, api.OK, "Levels")
	both := with(usual(), takes(1, 2, 2), gives(1, 2, 4), gives(0, 2, 2)) // a car that takes and gives back at once
	checkPlan(t, x.s, x.cars, both, api.OK)
	same(t, answerOf(depot.Price(x.s, x.cars, both)), good[int64](4*1+3*9-4*15+2*2), "Price")
}

// P8.7: timetables of the wrong size.
func TestTimetablesOfTheWrongSize(t *testing.T) {
	x, good := busy(), usual()
	for _, table := range []api.Timetable{
		{}, {In: good.In}, {Out: good.Out}, {In: good.In[:1], Out: good.Out}, {In: good.In, Out: good.Out[:1]}, {In: good.In[:1], Out: good.Out[:1]}, idle(4, 3), idle(3, 2), idle(5, 2), idle(0, 2), idle(4, 1), idle(2, 4),
		{In: append(deep(good.In), make([]int64, 4)), Out: good.Out}, {In: [][]int64{{5, 0, 0, 2}, {0, 3, 0}}, Out: good.Out}, {In: good.In, Out: [][]int64{{0, 0, 3, 0}, {1, 0, 1}}}, {In: good.In, Out: [][]int64{{0, 0, 3, 0, 0}, {1, 0, 1, 0}}}, {In: [][]int64{nil, {0, 3, 0, 0}}, Out: good.Out},
		{In: [][]int64{{-1, 0, 0, 2}, {99, 3, 0}}, Out: good.Out}, {In: numbersOf(2, 4, -1), Out: numbersOf(2, 3, -1)},
	} {
		checkPlan(t, x.s, x.cars, table, api.ErrEqual)
	}
	checkPlan(t, x.s, nil, api.Timetable{}, api.OK)
	checkPlan(t, x.s, nil, api.Timetable{In: [][]int64{}, Out: [][]int64{}}, api.OK)
	checkPlan(t, x.s, nil, idle(4, 1), api.ErrEqual)
	checkPlan(t, x.s, nil, api.Timetable{Out: [][]int64{{}}}, api.ErrEqual)
}

// numbersOf are n lists of m equal numbers.
func numbersOf(n, m int, x int64) [][]int64 {
	var l [][]int64
	for range n {
		l = append(l, numbers(m, x))
	}
	return l
}

// P8.7: numbers that a car cannot take, or give back.
func TestTimetablesOutOfRange(t *testing.T) {
	x := busy()
	wild := append(wildNumbers(), -1)
	for i, most := range [][2]int64{{5, 3}, {6, 6}} {
		for slot := range 4 {
			for _, w := range append(wild, most[0]+1) {
				checkPlan(t, x.s, x.cars, with(usual(), takes(i, slot, w)), api.ErrRange)
			}
			for _, w := range append(wild, most[1]+1) {
				checkPlan(t, x.s, x.cars, with(usual(), gives(i, slot, w)), api.ErrRange)
			}
		}
	}
	for _, w := range []int64{1, 3} { // while it is away
		checkPlan(t, x.s, x.cars, with(usual(), takes(0, 1, w)), api.ErrRange)
		checkPlan(t, x.s, x.cars, with(usual(), gives(0, 1, w)), api.ErrRange)
		checkPlan(t, x.s, x.cars, with(usual(), takes(0, 1, w), gives(0, 1, w)), api.ErrRange)
	}
	for _, w := range wildNumbers() { // the sums do not fit a word
		checkPlan(t, x.s, x.cars, api.Timetable{In: numbersOf(2, 4, w), Out: numbersOf(2, 4, w)}, api.ErrRange)
		checkPlan(t, x.s, x.cars, api.Timetable{In: numbersOf(2, 4, 0), Out: numbersOf(2, 4, w)}, api.ErrRange)
		checkPlan(t, x.s, x.cars, with(usual(), takes(0, 3, w), takes(1, 3, -w)), api.ErrRange)
	}
	long := yard{even(5, 9, 0, 1, 0), []api.Car{with(car(9, 2, 2, 5, 0), trips(1, 3, 0, 4, 5, 0))}}
	for slot, away := range []bool{false, true, true, false, true} {
		for _, table := range []api.Timetable{with(idle(5, 1), takes(0, slot, 1)), with(idle(5, 1), takes(0, slot, 1), gives(0, slot, 1))} {
			want := api.OK
			if away {
				want = api.ErrRange
			}
			checkPlan(t, long.s, long.cars, table, want)
		}
	}
}

// P8.7, P8.16: what a site draws and gives back.
func TestTimetablesAtLimits(t *testing.T) {
	x := busy()
	for _, c := range []struct {
		table api.Timetable
		s     api.Site
		want  api.Errno
	}{
		{usual(), with(x.s, limits(4, 3, 0, 2)), api.OK}, {usual(), with(x.s, limits(3, 3, 0, 2)), api.ErrLimit}, {usual(), with(x.s, limits(4, 2, 0, 2)), api.ErrLimit}, {usual(), with(x.s, limits(4, 3, 0, 1)), api.ErrLimit},
		{usual(), with(x.s, exports(0, 0, 3, 0)), api.ErrLimit}, {usual(), with(x.s, exports(0, 0, 5, 0)), api.OK}, {usual(), with(x.s, exports(9, 9, 0, 9)), api.ErrLimit},
		{with(usual(), gives(1, 3, 3)), x.s, api.ErrLimit}, {with(usual(), gives(1, 3, 2)), x.s, api.ErrSum}, {with(usual(), gives(1, 3, 1)), x.s, api.OK}, {with(usual(), gives(1, 3, 3)), with(x.s, exports(0, 0, 4, 1)), api.ErrSum},
		{with(usual(), takes(0, 0, 5), gives(1, 0, 0), takes(1, 0, 4)), x.s, api.ErrSum}, {with(usual(), takes(0, 0, 5), gives(1, 0, 0), takes(1, 0, 5)), x.s, api.ErrLimit},
	} {
		checkPlan(t, c.s, x.cars, c.table, c.want)
	}
}

// P8.7: levels that are not as they have to be.
func TestTimetablesOfWrongLevels(t *testing.T) {
	s := even(3, 9, 9, 1, 0)
	for _, c := range []struct {
		car  api.Car
		in   []int64
		out  []int64
		want api.Errno
	}{
		{car(5, 5, 5, 2, 0), []int64{0, 0, 0}, []int64{2, 0, 0}, api.OK}, {car(5, 5, 5, 2, 0), []int64{0, 0, 0}, []int64{3, 0, 0}, api.ErrSum}, {car(5, 5, 5, 2, 0), []int64{0, 0, 0}, []int64{0, 0, 2}, api.OK}, {car(5, 5, 5, 2, 0), []int64{0, 0, 0}, []int64{0, 0, 3}, api.ErrSum},
		{car(5, 5, 5, 2, 0), []int64{0, 0, 3}, []int64{0, 0, 3}, api.ErrSum}, {car(5, 5, 5, 2, 0), []int64{1, 0, 0}, []int64{3, 0, 0}, api.ErrSum}, {car(5, 5, 5, 2, 0), []int64{1, 0, 0}, []int64{0, 3, 0}, api.OK}, // what is taken in a slot cannot be given back in it
		{car(5, 5, 5, 2, 0), []int64{3, 0, 0}, []int64{0, 0, 0}, api.OK}, {car(5, 5, 5, 2, 0), []int64{4, 0, 0}, []int64{0, 0, 0}, api.ErrSum}, {car(5, 5, 5, 2, 0), []int64{4, 0, 0}, []int64{0, 1, 0}, api.ErrSum}, {car(5, 5, 5, 2, 0), []int64{4, 0, 0}, []int64{1, 0, 0}, api.OK}, {car(5, 5, 5, 2, 0), []int64{0, 0, 4}, []int64{0, 0, 0}, api.ErrSum}, {car(5, 5, 5, 2, 0), []int64{0, 0, 3}, []int64{0, 0, 0}, api.OK},
		{car(5, 5, 5, 2, 3), []int64{0, 0, 0}, []int64{0, 0, 0}, api.ErrSum}, {car(5, 5, 5, 2, 3), []int64{0, 0, 1}, []int64{0, 0, 0}, api.OK}, {car(5, 5, 5, 2, 3), []int64{1, 0, 0}, []int64{0, 0, 1}, api.ErrSum},
		{with(car(5, 5, 5, 2, 0), trips(0, 1, 2)), []int64{0, 0, 0}, []int64{0, 0, 0}, api.OK}, {with(car(5, 5, 5, 2, 0), trips(0, 1, 3)), []int64{0, 0, 0}, []int64{0, 0, 0}, api.ErrSum}, {with(car(5, 5, 5, 2, 0), trips(0, 1, 3)), []int64{0, 5, 0}, []int64{0, 0, 0}, api.ErrSum}, {with(car(5, 5, 5, 2, 0), trips(0, 3, 2)), []int64{0, 0, 0}, []int64{0, 0, 0}, api.OK},
		{with(car(5, 5, 5, 2, 0), trips(2, 3, 3)), []int64{0, 1, 0}, []int64{0, 0, 0}, api.OK}, {with(car(5, 5, 5, 2, 0), trips(2, 3, 3)), []int64{0, 0, 0}, []int64{0, 0, 0}, api.ErrSum}, {with(car(5, 5, 5, 2, 1), trips(2, 3, 3)), []int64{0, 2, 0}, []int64{0, 0, 0}, api.OK}, {with(car(5, 5, 5, 2, 1), trips(2, 3, 3)), []int64{0, 1, 0}, []int64{0, 0, 0}, api.ErrSum},
		{with(car(5, 5, 5, 2, 0), trips(0, 1, 1, 1, 2, 1)), []int64{0, 0, 0}, []int64{0, 0, 0}, api.OK}, {with(car(5, 5, 5, 2, 0), trips(0, 1, 1, 1, 2, 2)), []int64{0, 0, 0}, []int64{0, 0, 0}, api.ErrSum}, {with(car(5, 5, 5, 2, 0), trips(1, 2, 2)), []int64{0, 0, 4}, []int64{1, 0, 0}, api.ErrSum}, {with(car(5, 5, 5, 2, 0), trips(1, 2, 2)), []int64{3, 0, 2}, []int64{0, 0, 3}, api.OK},
	} {
		checkPlan(t, s, []api.Car{c.car}, table(c.in, c.out), c.want)
		rest := car(5, 5, 5, 2, 0)
		checkPlan(t, s, []api.Car{rest, c.car}, api.Timetable{In: [][]int64{{0, 0, 0}, c.in}, Out: [][]int64{{0, 0, 0}, c.out}}, c.want)
		checkPlan(t, s, []api.Car{c.car, rest}, api.Timetable{In: [][]int64{c.in, {0, 0, 0}}, Out: [][]int64{c.out, {0, 0, 0}}}, c.want)
	}
}

// P8.7, R1: which error is the first one: slot by slot, and the levels in the end.
func TestOrderOfTimetableErrors(t *testing.T) {
	x := busy()
	over, level := takes(1, 3, 6), takes(1, 3, 3) // 8 units in the last slot are within its limit
	s := with(x.s, limits(9, 9, 9, 7))
	for _, c := range []struct {
		changes []change[api.Timetable]
		want    api.Errno
	}{
		{[]change[api.Timetable]{level}, api.ErrSum}, {[]change[api.Timetable]{over}, api.ErrLimit},
		{[]change[api.Timetable]{over, takes(0, 3, 6)}, api.ErrRange}, {[]change[api.Timetable]{over, gives(1, 3, 7)}, api.ErrRange}, {[]change[api.Timetable]{over, takes(0, 0, 6)}, api.ErrRange}, {[]change[api.Timetable]{gives(1, 2, 4), takes(0, 3, 6)}, api.ErrLimit}, {[]change[api.Timetable]{gives(1, 2, 4), gives(0, 2, 4)}, api.ErrRange}, {[]change[api.Timetable]{gives(1, 2, 4), takes(0, 1, 1)}, api.ErrRange},
		{[]change[api.Timetable]{gives(0, 0, 3), over}, api.ErrLimit}, {[]change[api.Timetable]{gives(0, 0, 3)}, api.ErrSum}, {[]change[api.Timetable]{gives(0, 0, 3), takes(1, 3, -1)}, api.ErrRange}, {[]change[api.Timetable]{gives(1, 0, 6), takes(0, 0, 0)}, api.ErrLimit}, {[]change[api.Timetable]{gives(1, 0, 6), takes(0, 0, 0), gives(0, 0, -1)}, api.ErrRange}, {[]change[api.Timetable]{gives(1, 0, 6), takes(0, 0, 0), gives(0, 1, -1)}, api.ErrLimit},
	} {
		checkPlan(t, s, x.cars, with(usual(), c.changes...), c.want)
	}
}

// P8.7, P8.16: drawn timetables of drawn sites; in those that are accepted all limits hold.
func TestTimetablesDrawn(t *testing.T) {
	r := chance(806)
	count := map[api.Errno]int{}
	for range 6000 {
		s, cars := drawYard(r, siteSize{1 + r.Intn(5), r.Intn(4), drawInt(r, 1, 6), 9})
		table := drawTable(r, s, cars)
		if best, _, e := depot.Plan(s, cars); e == api.OK && r.Intn(3) == 0 {
			table = best
		}
		want := wantPlan(s, cars, table)
		checkPlan(t, s, cars, table, want)
		count[want]++
		if want == api.OK {
			checkLimits(t, s, cars, table)
		}
	}
	for _, e := range []api.Errno{api.OK, api.ErrRange, api.ErrLimit, api.ErrSum} {
		if count[e] < 300 {
			t.Errorf("just %d timetables have the error %d", count[e], e)
		}
	}
}

// checkLimits checks that no limit is passed, and that no car is empty on a trip.
func checkLimits(t *testing.T, s api.Site, cars []api.Car, table api.Timetable) {
	t.Helper()
	for slot, limit := range s.Limit {
		if d := drawnIn(table, slot); d > limit || d < -s.Export[slot] {
			t.Errorf("%v, %v: the site draws %d in the slot %d", s, cars, d, slot)
		}
	}
	levels, e := depot.Levels(s, cars, table)
	if e != api.OK {
		t.Fatalf("Levels %v %v %v: %d", s, cars, table, e)
	}
	for i, c := range cars {
		if len(levels) != len(cars) || len(levels[i]) != len(s.Limit)+1 {
			t.Fatalf("Levels %v %v %v: %v", s, cars, table, levels)
		}
		if slices.Min(levels[i]) < 0 || slices.Max(levels[i]) > c.Capacity || levels[i][0] != c.Start || levels[i][len(s.Limit)] < c.Final {
			t.Errorf("%v, %v: the levels %v of the car %d", s, cars, levels[i], i)
		}
	}
}

// best are a possible timetable with the least cost, and potentials.
func best(t *testing.T, s api.Site, cars []api.Car) (api.Timetable, []int64) {
	t.Helper()
	table, potentials, e := depot.Plan(s, cars)
	if e != api.OK {
		t.Fatalf("Plan %v %v: %d", s, cars, e)
	}
	return table, potentials
}

// checkBest checks what Plan returns if there is a possible timetable, by the definitions, and returns the cost.
func checkBest(t *testing.T, s api.Site, cars []api.Car) int64 {
	t.Helper()
	table, potentials := best(t, s, cars)
	n := netOf(s, cars)
	if e := wantPlan(s, cars, table); e != api.OK || !arePotentials(n, potentials) {
		t.Fatalf("Plan %v %v: %v, %v, which is %d", s, cars, table, potentials, e)
	}
	cost := priceOf(s, table)
	same(t, proofOf(n, potentials), cost, "the proof of Plan", s, cars, table)
	same(t, depot.CheckBest(s, cars, table, potentials), api.OK, "CheckBest", s, cars, table)
	same(t, answerOf(depot.Price(s, cars, table)), good(cost), "Price of Plan", s, cars, table)
	checkLimits(t, s, cars, table)
	return cost
}

// P8.6: plans by hand.
func TestPlanByHand(t *testing.T) {
	far := api.Site{Limit: []int64{9, 9, 9}, Export: []int64{9, 9, 9}, Buy: []int64{2, 5, 3}, Sell: []int64{2, 4, 0}}
	for _, x := range []struct {
		s    api.Site
		cars []api.Car
		want int64
	}{
		{exampleSite(), exampleCars(), 5}, {exampleSite(), nil, 0}, {even(1, 0, 0, 0, 0), nil, 0}, {with(exampleSite(), buys(5, 5, 5)), exampleCars(), 15}, {with(exampleSite(), limits(1, 1, 1)), exampleCars(), 9},
		{busy().s, busy().cars[:1], 5 - 45 + 4}, {far, []api.Car{car(9, 9, 9, 0, 0)}, 9*2 - 9*4}, {far, []api.Car{car(9, 9, 9, 0, 9)}, 18 - 36 + 27}, {far, []api.Car{car(9, 9, 9, 9, 0)}, -36}, {far, []api.Car{car(9, 9, 9, 9, 9)}, -9 * (4 - 3)}, {far, []api.Car{car(9, 9, 0, 9, 0)}, 0},
		{far, []api.Car{car(5, 9, 9, 5, 0), car(5, 9, 9, 0, 0)}, 2*4 - 4*9}, // of the 10 units that fit into both cars 5 are there, 4 are bought, and 9 are sold
		{even(1, 5, 0, 9, 9), []api.Car{car(5, 5, 5, 5, 0), car(5, 5, 5, 0, 5)}, 0}, {even(1, 0, 0, 9, 9), []api.Car{car(5, 5, 5, 5, 0), car(5, 5, 5, 0, 5)}, 0}, {even(2, 3, 0, 7, 0), []api.Car{car(5, 5, 5, 4, 2), car(5, 5, 5, 0, 5)}, 21},
		{even(mostSlots, mostCap, mostCap, mostPrice, mostPrice), []api.Car{car(mostCap, mostCap, mostCap, mostCap, 0)}, -mostCap * mostPrice}, {even(mostSlots, mostCap, mostCap, mostPrice, 0), []api.Car{car(mostCap, mostCap, 0, 0, mostCap)}, mostCap * mostPrice},
	} {
		same(t, checkBest(t, x.s, x.cars), x.want, "the cost of Plan", x.s, x.cars)
	}
}

// P8.6, P8.10: sites without a possible timetable.
func TestNoPlanByHand(t *testing.T) {
	for _, x := range []yard{
		{exampleSite(), []api.Car{car(10, 2, 0, 0, 7)}}, {with(exampleSite(), limits(1, 0, 1)), exampleCars()}, {even(1, 0, 0, 0, 0), []api.Car{car(1, 1, 1, 0, 1)}}, {even(3, 9, 9, 1, 1), []api.Car{with(car(9, 9, 9, 0, 0), trips(0, 1, 1))}}, {even(3, 9, 9, 1, 1), []api.Car{with(car(9, 9, 9, 0, 0), trips(1, 3, 9)), with(car(9, 9, 9, 9, 9), trips(2, 3, 1))}},
		{even(3, 9, 9, 1, 1), []api.Car{car(9, 3, 9, 0, 9), car(9, 3, 9, 0, 9), car(9, 9, 9, 0, 9), car(1, 1, 0, 0, 1)}}, {even(2, 9, 9, 1, 1), []api.Car{with(car(9, 9, 9, 5, 9), trips(0, 2, 0))}},
	} {
		checkNoPlan(t, x.s, x.cars, api.ErrPlan)
	}
}

// P8.6, P8.14, G3: drawn small sites, whose timetables are all tried: the least cost is that of a flow of the net, and there is a timetable just if there is a flow.
func TestPlanTried(t *testing.T) {
	r := chance(807)
	solved := 0
	for range 1500 {
		s, cars := drawSmallYard(r)
		want, ok := possibleCost(s, cars)
		n := netOf(s, cars)
		if !ok {
			checkNoPlan(t, s, cars, api.ErrPlan)
			checkMissing(t, n, missing(n))
			continue
		}
		same(t, checkBest(t, s, cars), want, "the cost of Plan", s, cars)
		same(t, checkLeast(t, n), want, "the cost of Least", s, cars)
		solved++
	}
	if solved < 500 || solved > 1400 {
		t.Errorf("%d sites have a timetable", solved)
	}
}

// P8.6: drawn greater sites.
func TestPlanDrawn(t *testing.T) {
	r := chance(808)
	solved := 0
	for range 250 {
		s, cars := drawYard(r, siteSize{1 + r.Intn(12), r.Intn(5), pick[int64](r, 9, 1000, mostCap), pick[int64](r, 9, mostPrice)})
		if missing(netOf(s, cars)) > 0 {
			checkNoPlan(t, s, cars, api.ErrPlan)
			continue
		}
		checkBest(t, s, cars)
		solved++
	}
	if solved < 50 || solved > 240 {
		t.Errorf("%d sites have a timetable", solved)
	}
}

// greatYard is a site of the greatest size.
func greatYard() yard {
	r := chance(809)
	s := even(mostSlots, mostCap/2, mostCap/4, 0, 0)
	var cars []api.Car
	for slot := range s.Limit {
		s.Buy[slot] = drawInt(r, 0, mostPrice)
		s.Sell[slot] = drawInt(r, 0, s.Buy[slot])
	}
	for i := range mostCars {
		cars = append(cars, with(car(mostCap, mostCap/4, mostCap/5, mostCap/3, mostCap/2), trips(5+i, 9+i, 300000, 20+i, 21+i, 500000, 30, 33, 9, 41, 48-i/2, 400000)))
	}
	return yard{s, cars}
}

// P8.6: a site of the greatest size.
func TestPlanOfGreatestSite(t *testing.T) {
	x := greatYard()
	checkBest(t, x.s, x.cars)
}

// P8.8: errors, in their order.
func TestCheckBestErrors(t *testing.T) {
	x := busy()
	table, potentials := best(t, x.s, x.cars)
	for _, l := range [][]int64{nil, potentials[1:], append(slices.Clone(potentials), 0), {mostPotential + 1}} {
		same(t, depot.CheckBest(x.s, x.cars, table, l), api.ErrEqual, "CheckBest", l)
		same(t, depot.CheckBest(x.s, x.cars, with(table, takes(0, 0, -1)), l), api.ErrRange, "CheckBest", l)
	}
	for _, w := range beyond(-mostPotential, mostPotential) {
		for _, at := range []int{0, 5, len(potentials) - 1} {
			l := slices.Clone(potentials)
			l[at] = w
			same(t, depot.CheckBest(x.s, x.cars, table, l), api.ErrRange, "CheckBest", l)
			same(t, depot.CheckBest(x.s, x.cars, with(table, takes(0, 1, 1)), l), api.ErrRange, "CheckBest", l)
			same(t, depot.CheckBest(with(x.s, limits(0, 0, 0, 0)), x.cars, with(table, takes(0, 0, 5), gives(1, 0, 0)), l), api.ErrLimit, "CheckBest", l)
		}
	}
	shifted := slices.Clone(potentials) // what all potentials are raised by does not matter
	for i := range shifted {
		shifted[i] -= 12345
	}
	same(t, depot.CheckBest(x.s, x.cars, table, shifted), api.OK, "CheckBest", shifted)
	same(t, depot.CheckBest(x.s, x.cars, usual(), potentials), api.ErrSum, "CheckBest of a timetable that costs more")
	same(t, depot.CheckBest(x.s, x.cars, table, make([]int64, len(potentials))), api.ErrSum, "CheckBest of potentials that prove less")
}

// P8.8: drawn timetables and potentials: they are accepted just if the potentials prove the cost.
func TestCheckBestDrawn(t *testing.T) {
	r := chance(810)
	accepted := 0
	for range 1500 {
		s, cars := drawSmallYard(r)
		table, potentials, e := depot.Plan(s, cars)
		if e != api.OK {
			continue
		}
		if other := drawTable(r, s, cars); r.Intn(3) == 0 && wantPlan(s, cars, other) == api.OK {
			table = other
		}
		if r.Intn(3) == 0 {
			potentials[r.Intn(len(potentials))] += drawInt(r, -3, 3)
		}
		want := api.ErrSum
		if proofOf(netOf(s, cars), potentials) == priceOf(s, table) {
			want = api.OK
			accepted++
		}
		same(t, depot.CheckBest(s, cars, table, potentials), want, "CheckBest", s, cars, table, potentials)
	}
	if accepted < 300 {
		t.Errorf("just %d timetables are accepted", accepted)
	}
}

// checkEager checks what Eager returns.
func checkEager(t *testing.T, s api.Site, cars []api.Car) bool {
	t.Helper()
	table, e := depot.Eager(s, cars)
	want := wantEager(s, cars)
	if wantPlan(s, cars, want) != api.OK {
		sameTable(t, table, api.Timetable{}, "Eager", s, cars)
		same(t, e, api.ErrPlan, "Eager", s, cars)
		return false
	}
	sameTable(t, table, want, "Eager", s, cars)
	same(t, e, api.OK, "Eager", s, cars)
	return true
}

// P8.9: Eager by hand.
func TestEagerByHand(t *testing.T) {
	for _, x := range []struct {
		s    api.Site
		cars []api.Car
		want [][]int64
	}{
		{exampleSite(), exampleCars(), [][]int64{{2, 2, 2}}}, {exampleSite(), nil, nil}, {with(exampleSite(), limits(1, 9, 0)), exampleCars(), [][]int64{{1, 2, 0}}}, {even(3, 9, 9, 1, 1), []api.Car{car(5, 2, 5, 0, 0)}, [][]int64{{2, 2, 1}}}, {even(3, 9, 9, 1, 1), []api.Car{car(5, 2, 5, 5, 0)}, [][]int64{{0, 0, 0}}},
		{even(3, 5, 9, 1, 1), []api.Car{car(9, 3, 5, 0, 0), car(9, 3, 5, 5, 0), car(9, 3, 5, 0, 0)}, [][]int64{{3, 3, 3}, {2, 2, 0}, {0, 0, 2}}}, {even(4, 5, 9, 1, 1), []api.Car{with(car(4, 3, 5, 0, 0), trips(1, 2, 3)), car(9, 4, 5, 0, 0)}, [][]int64{{3, 0, 3, 1}, {2, 4, 2, 1}}},
		{even(4, 5, 0, 1, 1), []api.Car{with(car(5, 5, 5, 5, 0), trips(0, 2, 3, 3, 4, 5))}, [][]int64{{0, 0, 3, 0}}},
	} {
		table, e := depot.Eager(x.s, x.cars)
		sameLists(t, table.In, x.want, "Eager", x.s, x.cars)
		sameLists(t, table.Out, numbersOf(len(x.cars), len(x.s.Limit), 0), "Eager", x.s, x.cars)
		same(t, e, api.OK, "Eager", x.s, x.cars)
	}
	same(t, answerOf(depot.Price(exampleSite(), exampleCars(), table([]int64{2, 2, 2}, []int64{0, 0, 0}))), good[int64](18), "Price")
	for _, x := range []yard{{exampleSite(), []api.Car{car(10, 2, 0, 0, 7)}}, {even(3, 9, 9, 1, 1), []api.Car{with(car(9, 9, 9, 3, 0), trips(0, 1, 4))}}, {even(3, 1, 9, 1, 1), []api.Car{with(car(9, 9, 9, 1, 0), trips(2, 3, 4))}}, {even(2, 3, 9, 1, 1), []api.Car{car(9, 2, 0, 0, 0), car(9, 9, 0, 0, 3)}}} { // the last one has a plan, but the first car takes too much
		table, e := depot.Eager(x.s, x.cars)
		sameTable(t, table, api.Timetable{}, "Eager", x)
		same(t, e, api.ErrPlan, "Eager", x)
	}
	checkBest(t, even(2, 3, 9, 1, 1), []api.Car{car(9, 2, 0, 0, 0), car(9, 9, 0, 0, 3)})
}

// P8.9, P8.15: Eager for drawn sites; what it returns never costs less than the plan.
func TestEagerDrawn(t *testing.T) {
	r := chance(811)
	possible := 0
	for range 1500 {
		s, cars := drawYard(r, siteSize{1 + r.Intn(8), r.Intn(6), pick[int64](r, 1, 5, 9, mostCap), pick[int64](r, 9, mostPrice)})
		if !checkEager(t, s, cars) {
			continue
		}
		possible++
		if eager := priceOf(s, wantEager(s, cars)); eager < checkBest(t, s, cars) {
			t.Errorf("%v, %v: Eager costs just %d", s, cars, eager)
		}
	}
	if possible < 200 || possible > 1400 {
		t.Errorf("%d eager timetables are possible", possible)
	}
	x := greatYard()
	if !checkEager(t, x.s, x.cars) {
		t.Error("no eager timetable of the greatest site")
	}
	for _, x := range edgeYards() {
		checkEager(t, x.s, x.cars)
	}
}
