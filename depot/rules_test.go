package depot_test

import (
	"math/rand"
	"reflect"
	"slices"
	"testing"

	"coulomb/api"
	"coulomb/depot"
)

// roomy is a list behind whose end there is room.
func roomy[T any](l []T) []T { return append(make([]T, 0, len(l)+5), l...) }

// roomyLists are lists behind whose ends there is room.
func roomyLists[T any](l [][]T) [][]T {
	l = roomy(l)
	for i, x := range l {
		l[i] = roomy(x)
	}
	return l
}

// arguments are arguments of all functions.
type arguments struct {
	n                api.Net
	flow, potentials []int64
	cut              []int
	s                api.Site
	cars             []api.Car
	table            api.Timetable
	prices           []int64
	peak             int64
	peakTable        api.Timetable
	peakCut          []int
	costs            [][]int64
	match            api.Match
}

// rightArguments are arguments for which no function returns an error but Missing, as the net has a flow.
func rightArguments(t *testing.T) arguments {
	t.Helper()
	a := arguments{n: example(), cut: []int{0, 1}, s: busy().s, cars: busy().cars, costs: [][]int64{{4, 1}, {2, 3}}}
	a.n.Supply, a.n.Arcs = roomy(a.n.Supply), roomy(a.n.Arcs)
	a.s = api.Site{Limit: roomy(a.s.Limit), Export: roomy(a.s.Export), Buy: roomy(a.s.Buy), Sell: roomy(a.s.Sell)}
	a.cars = roomy(a.cars)
	for i := range a.cars {
		a.cars[i].Trips = roomy(a.cars[i].Trips)
	}
	var e1, e2, e3, e4 api.Errno
	a.flow, a.potentials, e1 = depot.Least(a.n)
	a.table, a.prices, e2 = depot.Plan(a.s, a.cars)
	a.peak, a.peakTable, a.peakCut, e3 = depot.Peak(a.s, a.cars)
	a.match, e4 = depot.Assign(a.costs)
	if e := max(e1, e2, e3, e4); e != api.OK {
		t.Fatalf("errors: %d, %d, %d, %d", e1, e2, e3, e4)
	}
	return a.clone()
}

// clone are arguments that share no memory with a, and behind whose ends there is room.
func (a arguments) clone() arguments {
	a.n = api.Net{Supply: roomy(a.n.Supply), Arcs: roomy(a.n.Arcs)}
	a.flow, a.potentials, a.cut, a.prices, a.peakCut = roomy(a.flow), roomy(a.potentials), roomy(a.cut), roomy(a.prices), roomy(a.peakCut)
	a.s = api.Site{Limit: roomy(a.s.Limit), Export: roomy(a.s.Export), Buy: roomy(a.s.Buy), Sell: roomy(a.s.Sell)}
	a.cars = roomy(a.cars)
	for i := range a.cars {
		a.cars[i].Trips = roomy(a.cars[i].Trips)
	}
	a.table, a.peakTable = api.Timetable{In: roomyLists(a.table.In), Out: roomyLists(a.table.Out)}, api.Timetable{In: roomyLists(a.peakTable.In), Out: roomyLists(a.peakTable.Out)}
	a.costs = roomyLists(a.costs)
	a.match = api.Match{Cars: roomy(a.match.Cars), Total: a.match.Total, Routes: roomy(a.match.Routes), Prices: roomy(a.match.Prices)}
	return a
}

// outcome is what one call has returned: its error, and its other results.
type outcome struct {
	name  string
	errno api.Errno
	rest  []any
}

// returned is the outcome of a call with one result, or with more.
func returned(name string, e api.Errno, rest ...any) outcome { return outcome{name, e, rest} }

// callAll calls all functions.
func callAll(a arguments) []outcome {
	cost, e1 := depot.Cost(a.n, a.flow)
	proof, e2 := depot.Proves(a.n, a.potentials)
	lacks, e3 := depot.Lacks(a.n, a.cut)
	flow, potentials, e4 := depot.Least(a.n)
	cut, missing, e5 := depot.Missing(a.n)
	l := []outcome{
		returned("Check", depot.Check(a.n)), returned("Cost", e1, cost), returned("Proves", e2, proof), returned("Lacks", e3, lacks), returned("Least", e4, flow, potentials), returned("Missing", e5, cut, missing),
		returned("CheckLeast", depot.CheckLeast(a.n, a.flow, a.potentials)), returned("CheckSite", depot.CheckSite(a.s, a.cars)), returned("CheckPlan", depot.CheckPlan(a.s, a.cars, a.table)), returned("CheckBest", depot.CheckBest(a.s, a.cars, a.table, a.prices)),
		returned("CheckPeak", depot.CheckPeak(a.s, a.cars, a.peak, a.peakTable, a.peakCut)), returned("CheckAssign", depot.CheckAssign(a.costs, a.match)),
	}
	n, e1 := depot.NetOf(a.s, a.cars)
	table, prices, e2 := depot.Plan(a.s, a.cars)
	price, e3 := depot.Price(a.s, a.cars, a.table)
	levels, e4 := depot.Levels(a.s, a.cars, a.table)
	eager, e5 := depot.Eager(a.s, a.cars)
	l = append(l, returned("NetOf", e1, n.Supply, n.Arcs), returned("Plan", e2, table.In, table.Out, prices), returned("Price", e3, price), returned("Levels", e4, levels), returned("Eager", e5, eager.In, eager.Out))
	peak, table, cut, e1 := depot.Peak(a.s, a.cars)
	m, e2 := depot.Assign(a.costs)
	return append(l, returned("Peak", e1, peak, table.In, table.Out, cut), returned("Assign", e2, m.Cars, m.Total, m.Routes, m.Prices))
}

// isZero reports whether a result is zero, or an empty list.
func isZero(x any) bool {
	v := reflect.ValueOf(x)
	return v.Kind() == reflect.Slice && v.Len() == 0 || v.IsZero()
}

// sameOutcomes checks that calls return the same again.
func sameOutcomes(t *testing.T, first, again []outcome) {
	t.Helper()
	for i, x := range first {
		if !reflect.DeepEqual(x, again[i]) {
			t.Errorf("%s does not return the same again: %v, %v", x.name, x, again[i])
		}
	}
}

// behind are arguments with what lies behind the ends of their lists.
func behind(a arguments) arguments {
	whole := func(l []int64) []int64 { return l[:cap(l)] }
	lists := func(l [][]int64) [][]int64 {
		l = slices.Clone(l)
		for i, x := range l {
			l[i] = whole(x)
		}
		return l
	}
	a.n = api.Net{Supply: whole(a.n.Supply), Arcs: a.n.Arcs[:cap(a.n.Arcs)]}
	a.flow, a.potentials, a.prices = whole(a.flow), whole(a.potentials), whole(a.prices)
	a.cut, a.peakCut, a.match.Cars = a.cut[:cap(a.cut)], a.peakCut[:cap(a.peakCut)], a.match.Cars[:cap(a.match.Cars)]
	a.s = api.Site{Limit: whole(a.s.Limit), Export: whole(a.s.Export), Buy: whole(a.s.Buy), Sell: whole(a.s.Sell)}
	a.cars = slices.Clone(a.cars[:cap(a.cars)])
	for i, c := range a.cars {
		a.cars[i].Trips = c.Trips[:cap(c.Trips)]
	}
	a.table, a.peakTable = api.Timetable{In: lists(a.table.In), Out: lists(a.table.Out)}, api.Timetable{In: lists(a.peakTable.In), Out: lists(a.peakTable.Out)}
	a.costs, a.match.Routes, a.match.Prices = lists(a.costs), whole(a.match.Routes), whole(a.match.Prices)
	return a
}

// R5: no argument is changed, also not behind the end of a list.
func TestArgumentsAreNotChanged(t *testing.T) {
	a := rightArguments(t)
	given := a.clone()
	for _, x := range callAll(a) {
		same(t, x.errno == api.OK, x.name != "Missing", "whether a right call is accepted:", x.name, x.errno)
	}
	a.n.Supply[0]++ // so that there is no flow
	given.n.Supply[0]++
	callAll(a)
	a.n = linked(net(3, -3), arc(0, 1, 2, 1))
	given.n = linked(net(3, -3), arc(0, 1, 2, 1))
	depot.Missing(a.n)
	if !reflect.DeepEqual(behind(a), behind(given)) {
		t.Errorf("an argument is changed: %v, not %v", behind(a), behind(given))
	}
}

// spoilAll changes all elements of lists, and what lies behind their ends.
func spoilAll(l []outcome) {
	for _, x := range l {
		for _, rest := range x.rest {
			switch list := rest.(type) {
			case []int64:
				spoil(list, -77)
			case []int:
				spoil(list, -77)
			case []api.Arc:
				spoil(list, arc(-7, -7, -7, -7))
			case [][]int64:
				for _, one := range list {
					spoil(one, -77)
				}
				spoil(list, nil)
			}
		}
	}
}

// R5, R10: results share no memory with arguments, and with other results.
func TestResultsShareNothing(t *testing.T) {
	a := rightArguments(t)
	given, first, again := a.clone(), callAll(a), callAll(a)
	spoilAll(first)
	if !reflect.DeepEqual(behind(a), behind(given)) {
		t.Errorf("an argument is changed with a result: %v, not %v", a, given)
	}
	third := callAll(a)
	sameOutcomes(t, again, third)
	b := a.clone()
	fourth := callAll(b)
	spoilAll(callAll(a))
	for _, l := range [][]int64{b.n.Supply, b.flow, b.potentials, b.s.Limit, b.s.Export, b.s.Buy, b.s.Sell, b.costs[0], b.costs[1], b.table.In[0], b.table.Out[0]} {
		spoil(l, -78)
	}
	spoil(b.n.Arcs, api.Arc{})
	spoil(b.cars, api.Car{})
	sameOutcomes(t, fourth, third)
}

// R5: the lists of one result share no memory with each other.
func TestListsOfOneResultShareNothing(t *testing.T) {
	x := busy()
	for _, call := range []func() [][]int64{
		func() [][]int64 { table, _, _ := depot.Plan(x.s, x.cars); return slices.Concat(table.In, table.Out) },
		func() [][]int64 { _, table, _, _ := depot.Peak(x.s, x.cars); return slices.Concat(table.In, table.Out) },
		func() [][]int64 { table, _ := depot.Eager(x.s, x.cars); return slices.Concat(table.In, table.Out) },
		func() [][]int64 { levels, _ := depot.Levels(x.s, x.cars, usual()); return levels },
		func() [][]int64 {
			flow, potentials, _ := depot.Least(example())
			return [][]int64{flow, potentials}
		},
		func() [][]int64 {
			m, _ := depot.Assign([][]int64{{4, 1}, {2, 3}})
			return [][]int64{m.Routes, m.Prices}
		},
	} {
		want := call()
		for i := range want {
			l := call()
			spoil(l[i], -77)
			for j := range l {
				if j != i {
					sameList(t, l[j], want[j], "a list of a result behind a change of another one", i, j)
				}
			}
		}
	}
}

// R3: nil and empty lists are the same.
func TestNilAndEmpty(t *testing.T) {
	var a, b arguments
	a.s, b.s = exampleSite(), exampleSite()
	a.n, b.n = net(0, 0), net(0, 0)
	a.potentials, b.potentials = []int64{1, 2}, []int64{1, 2}
	b.n.Arcs, b.flow, b.cut, b.cars, b.prices, b.peakCut = []api.Arc{}, []int64{}, []int{}, []api.Car{}, []int64{}, []int{}
	b.table, b.peakTable = api.Timetable{In: [][]int64{}, Out: [][]int64{}}, api.Timetable{In: [][]int64{}, Out: [][]int64{}}
	b.costs, b.match = [][]int64{}, api.Match{Cars: []int{}, Routes: []int64{}, Prices: []int64{}}
	first, again := callAll(a), callAll(b)
	for i, x := range first {
		same(t, x.errno, again[i].errno, x.name)
		for j, rest := range x.rest {
			if isZero(rest) != isZero(again[i].rest[j]) || !isZero(rest) && !reflect.DeepEqual(rest, again[i].rest[j]) {
				t.Errorf("%s: %v, %v", x.name, rest, again[i].rest[j])
			}
		}
	}
	c := car(5, 1, 1, 1, 1)
	d := with(c, func(c *api.Car) { c.Trips = []api.Trip{} })
	one, _, e := depot.Plan(a.s, []api.Car{c})
	two, _, e2 := depot.Plan(a.s, []api.Car{d})
	sameTable(t, one, two, "Plan without trips")
	same(t, answerOf(int64(0), e), answerOf(int64(0), e2), "Plan without trips")
	same(t, depot.Check(api.Net{Supply: []int64{}}), depot.Check(api.Net{}), "Check")
	same(t, depot.CheckLeast(net(0), nil, []int64{3}), api.OK, "CheckLeast")
	same(t, depot.CheckLeast(net(0), []int64{}, []int64{3}), api.OK, "CheckLeast")
}

// drawNumber draws any number.
func drawNumber(r *rand.Rand) int64 {
	if r.Intn(3) == 0 {
		return pick(r, wildNumbers()...)
	}
	return r.Int63n(int64(1)<<r.Intn(63)) - pick[int64](r, 0, 0, 1<<r.Intn(63))
}

// drawIndex draws an index of n things, seldom one of none.
func drawIndex(r *rand.Rand, n int) int {
	return drawAny(r, r.Intn(max(n, 1)), wildIndexes(n)...)
}

// drawList draws numbers from lo to hi, seldom others, mostly n of them.
func drawList(r *rand.Rand, n int, lo, hi int64) []int64 {
	l := drawNumbers(r, drawAny(r, n, 0, n+1, r.Intn(9)), lo, hi)
	if len(l) > 0 && r.Intn(9) == 0 {
		l[r.Intn(len(l))] = drawNumber(r)
	}
	return l
}

// drawWildNet draws a net, which often is not valid.
func drawWildNet(r *rand.Rand, wild []wrong[api.Net]) api.Net {
	n := drawSmallNet(r, 9, pick[int64](r, 3, mostCap))
	if len(n.Arcs) > 0 && r.Intn(6) == 0 {
		a := &n.Arcs[r.Intn(len(n.Arcs))]
		*a = arc(drawIndex(r, len(n.Supply)), drawIndex(r, len(n.Supply)), drawAny(r, a.Cap, drawNumber(r)), drawAny(r, a.Cost, drawNumber(r)))
	}
	if r.Intn(9) == 0 {
		n.Supply[r.Intn(len(n.Supply))] += drawNumber(r)
	}
	return drawAny(r, n, pick(r, wild...).x)
}

// drawWildYard draws a site and cars, which often are not valid.
func drawWildYard(r *rand.Rand, wild []wrong[yard]) yard {
	s, cars := drawYard(r, siteSize{1 + r.Intn(5), r.Intn(4), pick[int64](r, 3, 9, mostCap), pick[int64](r, 9, mostPrice)})
	if r.Intn(6) == 0 {
		l := pick(r, s.Limit, s.Export, s.Buy, s.Sell)
		l[r.Intn(len(l))] = drawNumber(r)
	}
	for i := range cars {
		c := &cars[i]
		if r.Intn(9) == 0 {
			*pick(r, &c.Capacity, &c.In, &c.Out, &c.Start, &c.Final) = drawNumber(r)
		}
		if r.Intn(9) == 0 {
			c.Trips = append(c.Trips, api.Trip{From: drawIndex(r, 5), To: drawIndex(r, 6), Use: drawNumber(r)})
		}
	}
	return drawAny(r, yard{s, cars}, pick(r, wild...).x)
}

// drawWild draws arguments of all kinds, possible ones and others.
func drawWild(r *rand.Rand, nets []wrong[api.Net], yards []wrong[yard], costs []wrong[[][]int64]) arguments {
	var a arguments
	a.n = drawWildNet(r, nets)
	a.flow, a.potentials = drawList(r, len(a.n.Arcs), 0, 3), drawList(r, len(a.n.Supply), -9, 9)
	for range r.Intn(4) {
		a.cut, a.peakCut = append(a.cut, drawIndex(r, len(a.n.Supply))), append(a.peakCut, drawIndex(r, 9))
	}
	y := drawWildYard(r, yards)
	a.s, a.cars, a.peak = y.s, y.cars, drawAny(r, drawInt(r, 0, 9), drawNumber(r))
	for range drawAny(r, len(a.cars), r.Intn(4)) {
		a.table.In, a.table.Out = append(a.table.In, drawList(r, len(a.s.Limit), 0, 2)), append(a.table.Out, drawList(r, len(a.s.Limit), 0, 1))
	}
	a.peakTable, a.prices = drawAny(r, a.table, idle(len(a.s.Limit), len(a.cars))), drawList(r, 1+len(a.s.Limit)+2*len(a.cars)*(len(a.s.Limit)+1), -9, 9)
	a.costs = drawCosts(r, 1+r.Intn(4), 1+r.Intn(4), 9)
	for range drawAny(r, len(a.costs), r.Intn(4)) {
		a.match.Cars = append(a.match.Cars, drawIndex(r, len(a.costs[0])))
	}
	a.match.Total, a.match.Routes, a.match.Prices = drawAny(r, 9, drawNumber(r)), drawList(r, len(a.costs), 0, 9), drawList(r, len(a.costs[0]), -3, 0)
	a.costs = drawAny(r, a.costs, pick(r, costs...).x)
	return a
}

// P1, R2, R6, R7, R10: no arguments make a function panic; with an error all other results are zero; a call again returns the same.
func TestAnyArguments(t *testing.T) {
	r := chance(824)
	nets, yards, costs := wildNets(), wildYards(), wildCosts()
	accepted := map[string]int{}
	for range 1500 {
		a := drawWild(r, nets, yards, costs)
		first := callAll(a)
		for _, x := range first {
			if x.errno == api.OK {
				accepted[x.name]++
			}
			for _, rest := range x.rest {
				if x.errno != api.OK && !isZero(rest) {
					t.Errorf("%s returns %v with the error %d", x.name, rest, x.errno)
				}
			}
		}
		sameOutcomes(t, first, callAll(a))
	}
	for _, name := range []string{"Least", "Missing", "Plan", "Peak", "Eager", "Assign", "Lacks", "Proves", "CheckPlan"} {
		if accepted[name] < 50 {
			t.Errorf("%s was accepted just %d times", name, accepted[name])
		}
	}
}
