package depot_test

import (
	"math"
	"slices"
	"testing"

	"coulomb/api"
	"coulomb/depot"
)

// yard is a site and its cars.
type yard struct {
	s    api.Site
	cars []api.Car
}

// edgeYards are valid, and at limits.
func edgeYards() []yard {
	far, near := even(mostSlots, mostCap, mostCap, mostPrice, mostPrice), even(1, 0, 0, 0, 0)
	most, least := car(mostCap, mostCap, mostCap, mostCap, mostCap), car(1, 0, 0, 0, 0)
	l := []yard{
		{exampleSite(), exampleCars()}, {far, nil}, {near, nil}, {far, []api.Car{}}, {far, slices.Repeat([]api.Car{with(most, trips(0, 1, mostCap, 1, 2, mostCap, 46, 47, 0, 47, 48, 5))}, mostCars)},
		{near, slices.Repeat([]api.Car{with(least, trips(0, 1, 1))}, mostCars)}, {near, []api.Car{least, most}}, {far, []api.Car{with(most, trips(0, 48, mostCap))}}, {far, []api.Car{with(most, trips(47, 48, 0))}},
		{even(3, 1, 2, 3, 3), []api.Car{car(5, 9, 9, 5, 5), car(5, 1, 0, 0, 5)}}, {even(3, 1, 2, 3, 0), []api.Car{with(car(5, 1, 1, 1, 1), trips(0, 1, 5, 1, 3, 5)), with(car(5, 1, 1, 1, 1), trips(2, 3, 5))}},
	}
	return l
}

// wildSites are no valid sites of 3 slots.
func wildSites() []api.Site {
	s := even(3, 2, 1, 5, 3)
	l := []api.Site{{}, {Limit: numbers(3, 1)}, even(mostSlots+1, 1, 1, 1, 1), even(500, 1, 1, 1, 1), even(0, 0, 0, 0, 0)}
	for _, change := range []func(l ...int64) change[api.Site]{limits, exports, buys, sells} {
		l = append(l, with(s, change()), with(s, change(1, 1)), with(s, change(3, 3, 3, 3)))
		for _, x := range beyond(0, mostCap) { // MaxPrice is the same
			l = append(l, with(s, buys(mostPrice, mostPrice, mostPrice), change(x, 3, 3)), with(s, buys(mostPrice, mostPrice, mostPrice), change(3, 3, x)))
		}
	}
	return append(l, with(s, sells(6, 3, 3)), with(s, sells(3, 3, 6)), with(s, buys(5, 2, 5)), with(s, sells(5, 5, 5), buys(5, 4, 5)), with(s, buys(-3, 5, 5), sells(-3, 3, 3)))
}

// wildCars are no valid cars for a site of 3 slots.
func wildCars() []api.Car {
	l := []api.Car{{}, car(0, 0, 0, 0, 0), car(5, 1, 1, 6, 0), car(5, 1, 1, 0, 6), car(1, 1, 1, 2, 1)}
	for _, x := range beyond(0, mostCap) {
		l = append(l, car(x, 1, 1, 0, 0), car(x, 1, 1, x, x), car(5, x, 1, 0, 0), car(5, 1, x, 0, 0), car(mostCap, 1, 1, x, 0), car(mostCap, 1, 1, 0, x))
	}
	c := car(5, 1, 1, 1, 1)
	for _, change := range []change[api.Car]{
		trips(-1, 1, 0), trips(0, 0, 0), trips(1, 1, 0), trips(3, 3, 0), trips(2, 1, 0), trips(0, 4, 0), trips(3, 4, 0), trips(2, 4, 0), trips(4, 5, 0), trips(-2, -1, 0), trips(1, -1, 0), trips(0, 1, 6), trips(0, 1, -1), trips(0, 1, mostCap),
		trips(0, 2, 1, 1, 3, 1), trips(1, 2, 1, 0, 1, 1), trips(0, 1, 1, 0, 1, 1), trips(0, 3, 1, 2, 3, 1), trips(2, 3, 1, 0, 1, 1), trips(0, 1, 1, 1, 2, 1, 1, 2, 1), trips(0, 1, 1, 1, 2, 6), trips(0, 1, 1, 1, 2, 1, 2, 4, 1), trips(0, 1, 6, 1, 2, 1),
		trips(0, 1, 0, 1, 2, 0, 2, 3, 0, 2, 3, 0, 2, 3, 0), trips(math.MinInt, 1, 0), trips(0, math.MaxInt, 0), trips(0, 1<<32+1, 0), trips(-1<<32, 1, 0), trips(math.MinInt, math.MaxInt, 0), trips(0, 1, math.MinInt), trips(0, 1, math.MaxInt), trips(0, 1, 1<<32),
	} {
		l = append(l, with(c, change))
	}
	return l
}

// wildYards are sites and cars that are not valid.
func wildYards() []wrong[yard] {
	s, c := even(3, 2, 1, 5, 3), car(5, 1, 1, 1, 1)
	many := slices.Repeat([]api.Car{c}, mostCars+1)
	five := with(c, trips(0, 1, 0, 2, 3, 0, 4, 5, 0, 6, 7, 0, 8, 9, 0))
	l := []wrong[yard]{
		{yard{s, many}, api.ErrMany}, {yard{s, slices.Repeat([]api.Car{c}, 1000)}, api.ErrMany}, {yard{api.Site{}, many}, api.ErrMany}, {yard{s, make([]api.Car, mostCars+1)}, api.ErrMany}, {yard{api.Site{}, make([]api.Car, mostCars+1)}, api.ErrMany}, // ErrMany is before ErrArg
		{yard{api.Site{}, make([]api.Car, mostCars)}, api.ErrArg}, {yard{even(20, 2, 1, 5, 3), []api.Car{five}}, api.ErrArg}, {yard{s, []api.Car{with(c, func(c *api.Car) { c.Trips = make([]api.Trip, 5000) })}}, api.ErrArg},
	}
	for _, x := range wildSites() {
		for _, cars := range [][]api.Car{nil, {c}, make([]api.Car, mostCars)} {
			l = append(l, wrong[yard]{yard{x, cars}, api.ErrArg})
		}
	}
	for _, x := range wildCars() {
		l = append(l, wrong[yard]{yard{s, []api.Car{x}}, api.ErrArg}, wrong[yard]{yard{s, []api.Car{x, c}}, api.ErrArg}, wrong[yard]{yard{s, append(slices.Repeat([]api.Car{c}, mostCars-1), x)}, api.ErrArg})
	}
	return l
}

// P8.5: which sites and cars are valid.
func TestCheckSite(t *testing.T) {
	for _, x := range edgeYards() {
		same(t, depot.CheckSite(x.s, x.cars), api.OK, "CheckSite", x)
	}
	for _, x := range wildYards() {
		same(t, depot.CheckSite(x.x.s, x.x.cars), x.e, "CheckSite", x.x)
	}
	four := with(car(5, 1, 1, 1, 1), trips(0, 1, 0, 2, 3, 0, 4, 5, 0, 6, 7, 0))
	same(t, depot.CheckSite(even(7, 2, 1, 5, 3), []api.Car{four}), api.OK, "CheckSite with four trips")
	same(t, depot.CheckSite(even(6, 2, 1, 5, 3), []api.Car{four}), api.ErrArg, "CheckSite with a trip that is too late")
}

// sameTable checks that a call returns the timetable that is wanted.
func sameTable(t *testing.T, got, want api.Timetable, call string, arguments ...any) {
	t.Helper()
	sameLists(t, got.In, want.In, call+", In", arguments...)
	sameLists(t, got.Out, want.Out, call+", Out", arguments...)
}

// P8.5 to P8.10: the error of a site comes before all others.
func TestWildSites(t *testing.T) {
	for _, x := range wildYards() {
		s, cars := x.x.s, x.x.cars
		n, e := depot.NetOf(s, cars)
		same(t, e, x.e, "NetOf", x.x)
		same(t, len(n.Supply)+len(n.Arcs), 0, "the net of NetOf", x.x)
		for _, table := range []api.Timetable{{}, idle(len(s.Limit), len(cars)), idle(2, 2)} {
			same(t, depot.CheckPlan(s, cars, table), x.e, "CheckPlan", x.x)
			same(t, answerOf(depot.Price(s, cars, table)), bad[int64](x.e), "Price", x.x)
			levels, e := depot.Levels(s, cars, table)
			sameLists(t, levels, nil, "Levels", x.x)
			same(t, e, x.e, "Levels", x.x)
			same(t, depot.CheckBest(s, cars, table, nil), x.e, "CheckBest", x.x)
			for _, peak := range []int64{-1, 0, 5, math.MaxInt64} {
				same(t, depot.CheckPeak(s, cars, peak, table, []int{-1}), x.e, "CheckPeak", x.x)
			}
		}
		checkNoPlan(t, s, cars, x.e)
		table, e := depot.Eager(s, cars)
		sameTable(t, table, api.Timetable{}, "Eager", x.x)
		same(t, e, x.e, "Eager", x.x)
	}
}

// checkNoPlan checks that Plan and Peak return an error, and nothing else.
func checkNoPlan(t *testing.T, s api.Site, cars []api.Car, want api.Errno) {
	t.Helper()
	table, potentials, e := depot.Plan(s, cars)
	sameTable(t, table, api.Timetable{}, "Plan", s, cars)
	sameList(t, potentials, nil, "Plan, potentials", s, cars)
	same(t, e, want, "Plan", s, cars)
	peak, table, cut, e := depot.Peak(s, cars)
	same(t, peak, 0, "Peak", s, cars)
	sameTable(t, table, api.Timetable{}, "Peak", s, cars)
	sameList(t, cut, nil, "Peak, cut", s, cars)
	same(t, e, want, "Peak", s, cars)
}

// checkNet checks the net of a site.
func checkNet(t *testing.T, s api.Site, cars []api.Car, want api.Net) {
	t.Helper()
	n, e := depot.NetOf(s, cars)
	same(t, e, api.OK, "NetOf", s, cars)
	sameList(t, n.Supply, want.Supply, "NetOf, supplies", s, cars)
	sameList(t, n.Arcs, want.Arcs, "NetOf, arcs", s, cars)
	same(t, depot.Check(n), api.OK, "Check of NetOf", s, cars)
}

// P8.5: nets by hand.
func TestNetOfByHand(t *testing.T) {
	checkNet(t, api.Site{Limit: []int64{7, 8}, Export: []int64{5, 6}, Buy: []int64{3, 4}, Sell: []int64{1, 2}}, nil,
		linked(empty(3), arc(0, 1, 7, 3), arc(0, 2, 8, 4), arc(1, 0, 5, -1), arc(2, 0, 6, -2)))
	s := api.Site{Limit: []int64{7, 8, 9}, Export: []int64{1, 2, 3}, Buy: []int64{30, 40, 50}, Sell: []int64{10, 20, 0}}
	first, second := with(car(100, 21, 22, 23, 24), trips(1, 2, 25)), with(car(200, 31, 32, 33, 34), trips(0, 1, 35, 1, 3, 36))
	n := net(24+25-23+34+35+36-33, 0, 0, 0, 23, 0, 0, -25, 0, 0, 0, -24, 33, -35, 0, -36, 0, 0, 0, -34)
	n = linked(n, arc(0, 1, 7, 30), arc(0, 2, 8, 40), arc(0, 3, 9, 50), arc(1, 0, 1, -10), arc(2, 0, 2, -20), arc(3, 0, 3, 0))
	n = linked(n, arc(4, 5, 100, 0), arc(5, 6, 100, 0), arc(1, 6, 21, 0), arc(5, 1, 22, 0)) // the first car
	n = linked(n, arc(6, 7, 100, 0), arc(7, 8, 100, 0))
	n = linked(n, arc(8, 9, 100, 0), arc(9, 10, 100, 0), arc(3, 10, 21, 0), arc(9, 3, 22, 0))
	n = linked(n, arc(10, 11, 100, 0), arc(11, 0, 76, 0))
	n = linked(n, arc(12, 13, 200, 0), arc(13, 14, 200, 0), arc(14, 15, 200, 0), arc(15, 16, 200, 0), arc(16, 17, 200, 0), arc(17, 18, 200, 0)) // the second one
	n = linked(n, arc(18, 19, 200, 0), arc(19, 0, 166, 0))
	checkNet(t, s, []api.Car{first, second}, n)
}

// P8.5: the nets of sites at the limits, and of drawn ones.
func TestNetOf(t *testing.T) {
	for _, x := range edgeYards() {
		checkNet(t, x.s, x.cars, netOf(x.s, x.cars))
	}
	r := chance(805)
	for range 500 {
		s, cars := drawYard(r, siteSize{1 + r.Intn(9), r.Intn(9), pick[int64](r, 1, 5, 1000, mostCap), pick[int64](r, 0, 9, mostPrice)})
		checkNet(t, s, cars, netOf(s, cars))
	}
}
