package depot_test

import (
	"math"
	"math/rand"
	"slices"
	"testing"

	"coulomb/api"
	"coulomb/depot"
)

// The limits that the chapter names.
const (
	mostNodes     = 1024
	mostArcs      = 2048
	mostCap       = 1 << 20
	mostPrice     = 1 << 20
	mostSupply    = 1 << 28
	mostPotential = 1 << 30
	mostSlots     = 48
	mostCars      = 8
	mostTrips     = 4
	mostRoutes    = 8
	quantities    = 1 << 40
)

// change changes a value that is made.
type change[T any] func(x *T)

// with returns a value that is changed.
func with[T any](x T, changes ...change[T]) T {
	for _, c := range changes {
		c(&x)
	}
	return x
}

// arc is an arc.
func arc(from, to int, room, cost int64) api.Arc {
	return api.Arc{From: from, To: to, Cap: room, Cost: cost}
}

// net is a net with supplies, to which arcs are added.
func net(supply ...int64) api.Net { return api.Net{Supply: supply} }

// linked is a net with arcs.
func linked(n api.Net, arcs ...api.Arc) api.Net {
	n.Arcs = append(slices.Clone(n.Arcs), arcs...)
	return n
}

// empty is a net of some nodes that supply nothing.
func empty(nodes int) api.Net { return net(make([]int64, nodes)...) }

// example is the net of the chapter.
func example() api.Net {
	return linked(net(3, 0, -3), arc(0, 1, 2, 1), arc(1, 2, 2, 1), arc(0, 2, 2, 5))
}

// numbers are n equal numbers.
func numbers(n int, x int64) []int64 { return slices.Repeat([]int64{x}, n) }

// even is a site that is the same in all slots.
func even(slots int, limit, export, buy, sell int64) api.Site {
	return api.Site{Limit: numbers(slots, limit), Export: numbers(slots, export), Buy: numbers(slots, buy), Sell: numbers(slots, sell)}
}

// exampleSite is the site of the chapter.
func exampleSite() api.Site { return with(even(3, 2, 0, 0, 0), buys(5, 1, 3)) }

// exampleCars is the car of the chapter.
func exampleCars() []api.Car { return []api.Car{{Capacity: 10, In: 2, Final: 3}} }

func limits(l ...int64) change[api.Site]  { return func(s *api.Site) { s.Limit = l } }
func exports(l ...int64) change[api.Site] { return func(s *api.Site) { s.Export = l } }
func buys(l ...int64) change[api.Site]    { return func(s *api.Site) { s.Buy = l } }
func sells(l ...int64) change[api.Site]   { return func(s *api.Site) { s.Sell = l } }

// car is a car without trips.
func car(capacity, in, out, start, final int64) api.Car {
	return api.Car{Capacity: capacity, In: in, Out: out, Start: start, Final: final}
}

// trips adds trips to a car: three numbers for each one.
func trips(l ...int) change[api.Car] {
	return func(c *api.Car) {
		for t := range slices.Chunk(l, 3) {
			c.Trips = append(slices.Clone(c.Trips), api.Trip{From: t[0], To: t[1], Use: int64(t[2])})
		}
	}
}

// table is a timetable of one car.
func table(in, out []int64) api.Timetable {
	return api.Timetable{In: [][]int64{in}, Out: [][]int64{out}}
}

// idle is the timetable in which nothing happens.
func idle(slots, cars int) api.Timetable {
	var t api.Timetable
	for range cars {
		t.In, t.Out = append(t.In, make([]int64, slots)), append(t.Out, make([]int64, slots))
	}
	return t
}

// deep is a list of lists that shares no memory with l.
func deep[T any](l [][]T) [][]T {
	var m [][]T
	for _, x := range l {
		m = append(m, slices.Clone(x))
	}
	return m
}

// cloneTable is a timetable that shares no memory with t.
func cloneTable(t api.Timetable) api.Timetable {
	return api.Timetable{In: deep(t.In), Out: deep(t.Out)}
}

// spoil changes all elements of a list, and what lies behind its end if there is room.
func spoil[T any](l []T, wrong T) {
	for i := range l[:cap(l)] {
		l[:cap(l)][i] = wrong
	}
}

// wildNumbers are beyond every limit.
func wildNumbers() []int64 {
	return []int64{math.MinInt64, math.MinInt64 + 1, -1 << 62, -1 << 41, -1 << 32, quantities + 1, 1 << 41, 1 << 62, math.MaxInt64 - 1, math.MaxInt64}
}

// beyond are the numbers next to lo and hi, and wild ones.
func beyond(lo, hi int64) []int64 {
	return slices.DeleteFunc(append(wildNumbers(), lo-1, hi+1), func(x int64) bool { return lo <= x && x <= hi })
}

// wildIndexes are the indexes of none of n things.
func wildIndexes(n int) []int {
	l := []int{-1, -2, n, n + 1, 1 << 16, 1 << 32, 1<<32 + 1, -1 << 32, math.MinInt, math.MaxInt}
	return slices.DeleteFunc(l, func(i int) bool { return 0 <= i && i < n })
}

// wrong is something that is not valid, with its error.
type wrong[T any] struct {
	x T
	e api.Errno
}

// same checks that a call returns what is wanted.
func same[T comparable](t *testing.T, got, want T, call string, arguments ...any) {
	t.Helper()
	if got != want {
		t.Errorf("%s %v: %v, not %v", call, arguments, got, want)
	}
}

// sameList checks that a call returns the list that is wanted.
func sameList[T comparable](t *testing.T, got, want []T, call string, arguments ...any) {
	t.Helper()
	if !slices.Equal(got, want) {
		t.Errorf("%s %v: %v, not %v", call, arguments, got, want)
	}
}

// sameLists checks that a call returns the list of lists that is wanted.
func sameLists[T comparable](t *testing.T, got, want [][]T, call string, arguments ...any) {
	t.Helper()
	if !slices.EqualFunc(got, want, slices.Equal) {
		t.Errorf("%s %v: %v, not %v", call, arguments, got, want)
	}
}

// answer is what a function returns that has one other result than an error.
type answer[T any] struct {
	x T
	e api.Errno
}

func answerOf[T any](x T, e api.Errno) answer[T] { return answer[T]{x, e} }
func good[T any](x T) answer[T]                  { return answer[T]{x: x} }
func bad[T any](e api.Errno) answer[T]           { return answer[T]{e: e} }

// chance draws the same numbers in each run.
func chance(seed int64) *rand.Rand { return rand.New(rand.NewSource(seed)) }

// pick draws one of some values.
func pick[T any](r *rand.Rand, l ...T) T { return l[r.Intn(len(l))] }

// drawInt draws a number from lo to hi.
func drawInt(r *rand.Rand, lo, hi int64) int64 { return lo + r.Int63n(hi-lo+1) }

// drawNumbers draws n numbers from lo to hi.
func drawNumbers(r *rand.Rand, n int, lo, hi int64) []int64 {
	l := make([]int64, n)
	for i := range l {
		l[i] = drawInt(r, lo, hi)
	}
	return l
}

// drawAny draws a value, mostly the good one.
func drawAny[T any](r *rand.Rand, good T, wild ...T) T {
	if r.Intn(8) > 0 {
		return good
	}
	return pick(r, wild...)
}

// netSize says how great the numbers of a drawn net are.
type netSize struct {
	nodes, arcs int
	room, cost  int64
	below       bool // whether there are costs below 0
	feasible    bool // whether there is a flow in any case
}

// drawNet draws a net, in which there are more or fewer supplies.
func drawNet(r *rand.Rand, x netSize) api.Net {
	n := empty(x.nodes)
	often := r.Intn(5)
	for range x.arcs {
		a := drawArc(r, x)
		n.Arcs = append(n.Arcs, a)
		if r.Intn(4) < often {
			units := drawInt(r, 0, a.Cap)
			if !x.feasible {
				units = drawInt(r, 0, x.room)
			}
			n.Supply[a.From] += units
			n.Supply[a.To] -= units
		}
	}
	return n
}

// drawArc draws an arc.
func drawArc(r *rand.Rand, x netSize) api.Arc {
	from, lowest := r.Intn(x.nodes), int64(0)
	to := (from + 1 + r.Intn(x.nodes-1)) % x.nodes
	if x.below {
		lowest = -x.cost
	}
	return arc(from, to, drawInt(r, 0, x.room), drawInt(r, lowest, x.cost))
}

// drawSmallNet draws a net of a few nodes and arcs.
func drawSmallNet(r *rand.Rand, arcs int, room int64) api.Net {
	return drawNet(r, netSize{nodes: 2 + r.Intn(4), arcs: r.Intn(arcs + 1), room: room, cost: pick[int64](r, 0, 1, 3, 9, mostPrice), below: r.Intn(2) == 0, feasible: r.Intn(3) > 0})
}

// siteSize says how great a drawn site is.
type siteSize struct {
	slots, cars int
	room, price int64
}

// drawSite draws a valid site.
func drawSite(r *rand.Rand, x siteSize) api.Site {
	s := even(x.slots, 0, 0, 0, 0)
	for slot := range x.slots {
		s.Limit[slot] = drawInt(r, 0, min(mostCap, 2*x.room))
		s.Export[slot] = pick(r, 0, drawInt(r, 0, x.room))
		s.Buy[slot] = drawInt(r, 0, x.price)
		s.Sell[slot] = pick(r, 0, drawInt(r, 0, s.Buy[slot]), s.Buy[slot])
	}
	return s
}

// drawCar draws a valid car for a site of some slots.
func drawCar(r *rand.Rand, slots int, room int64) api.Car {
	c := car(drawInt(r, 1, room), drawInt(r, 0, room), pick(r, 0, drawInt(r, 0, room)), 0, 0)
	c.Start, c.Final = drawInt(r, 0, c.Capacity), pick(r, 0, drawInt(r, 0, c.Capacity))
	for from := r.Intn(slots + 1); from < slots && len(c.Trips) < r.Intn(5); from += r.Intn(slots) {
		to := from + 1 + r.Intn(min(3, slots-from))
		c.Trips = append(c.Trips, api.Trip{From: from, To: to, Use: pick(r, 0, drawInt(r, 0, c.Capacity), drawInt(r, 0, c.Capacity/2))})
		from = to
	}
	return c
}

// drawYard draws a valid site, and valid cars.
func drawYard(r *rand.Rand, x siteSize) (api.Site, []api.Car) {
	s := drawSite(r, x)
	var cars []api.Car
	for range x.cars {
		cars = append(cars, drawCar(r, x.slots, x.room))
	}
	return s, cars
}

// drawSmallYard draws a site of a few slots with a few cars.
func drawSmallYard(r *rand.Rand) (api.Site, []api.Car) {
	return drawYard(r, siteSize{1 + r.Intn(4), r.Intn(3), drawInt(r, 1, 4), pick[int64](r, 0, 1, 9, mostPrice)})
}

// drawThirstyYard draws a site of a few slots whose cars have to draw something more often.
func drawThirstyYard(r *rand.Rand) (api.Site, []api.Car) {
	s, cars := drawSmallYard(r)
	for slot := range s.Limit {
		s.Limit[slot] += drawInt(r, 0, 5)
	}
	for i := range cars {
		c := &cars[i]
		c.In = max(c.In, drawInt(r, 1, 4))
		c.Start, c.Final = c.Start/2, max(c.Final, drawInt(r, 0, c.Capacity))
	}
	return s, cars
}

// drawTable draws a timetable: what a car takes and gives back is often what it can, or nothing, and seldom more than that.
func drawTable(r *rand.Rand, s api.Site, cars []api.Car) api.Timetable {
	t := idle(len(s.Limit), len(cars))
	wildly := r.Intn(4) == 0
	for i, c := range cars {
		for slot := range s.Limit {
			if isAway(c, slot) && !wildly {
				continue
			}
			t.In[i][slot], t.Out[i][slot] = pick(r, 0, c.In, drawInt(r, 0, c.In)), pick(r, 0, 0, c.Out, drawInt(r, 0, c.Out))
			if wildly && r.Intn(10) == 0 {
				*pick(r, &t.In[i][slot], &t.Out[i][slot]) = pick(r, beyond(0, pick(r, c.In, c.Out))...)
			}
		}
	}
	return t
}

// drawCosts draws costs.
func drawCosts(r *rand.Rand, routes, cars int, most int64) [][]int64 {
	var l [][]int64
	often := r.Intn(6)
	for range routes {
		l = append(l, drawNumbers(r, cars, 0, most))
		for i := range cars {
			if r.Intn(8) < often {
				l[len(l)-1][i] = -1
			}
		}
	}
	return l
}

// least are a least flow of a net and potentials.
func least(t *testing.T, n api.Net) (flow, potentials []int64) {
	t.Helper()
	flow, potentials, e := depot.Least(n)
	if e != api.OK {
		t.Fatalf("Least %v: %d", n, e)
	}
	return flow, potentials
}
