package depot

import "coulomb/api"

// fleet has for each route the cost of each car, or cannot.
type fleet [][]int64

// cannot is the cost of a car that cannot drive a route.
const cannot = -1

// impossible is more than any total.
const impossible = 1 << 40

// table has for each route, and each set of cars that are taken, the least total of this route and of those behind it.
type table [api.MaxRoutes + 1][1 << api.MaxCars]int64

// Assign returns an assignment with the least total. (P8.11)
func Assign(costs [][]int64) (api.Match, api.Errno) {
	f, e := newFleet(costs)
	if e != api.OK {
		return api.Match{}, e
	}
	t := f.table()
	if t[0][0] == impossible {
		return api.Match{}, api.ErrPlan
	}
	routes, prices := f.prices()
	return api.Match{Cars: f.first(t), Total: t[0][0], Routes: routes, Prices: prices}, api.OK
}

// CheckAssign reports whether an assignment has the least total. (P8.11)
func CheckAssign(costs [][]int64, m api.Match) api.Errno {
	f, e := newFleet(costs)
	if e != api.OK {
		return e
	}
	if len(m.Cars) != len(f) || len(m.Routes) != len(f) || len(m.Prices) != f.cars() {
		return api.ErrEqual
	}
	for _, car := range m.Cars {
		if !isIndex(car, f.cars()) {
			return api.ErrRange
		}
	}
	if !areFrom(m.Routes, -api.MaxQuantity, api.MaxQuantity) || !areFrom(m.Prices, -api.MaxQuantity, api.MaxQuantity) {
		return api.ErrRange
	}
	if !f.isTotal(m.Cars, m.Total) || !f.proves(m.Routes, m.Prices) || sumOf(m.Routes)+sumOf(m.Prices) != m.Total {
		return api.ErrSum
	}
	return api.OK
}

// newFleet returns a fleet, or the errors of costs.
func newFleet(costs [][]int64) (fleet, api.Errno) {
	if len(costs) < 1 || len(costs) > api.MaxRoutes || len(costs[0]) < 1 || len(costs[0]) > api.MaxCars {
		return nil, api.ErrMany
	}
	for _, l := range costs {
		if len(l) != len(costs[0]) {
			return nil, api.ErrEqual
		}
	}
	for _, l := range costs {
		if !areFrom(l, cannot, api.MaxPrice) {
			return nil, api.ErrRange
		}
	}
	return costs, api.OK
}

// cars returns how many cars there are.
func (f fleet) cars() int { return len(f[0]) }

// table returns the least totals, reckoned from the last route on.
func (f fleet) table() *table {
	var t table
	for route := len(f) - 1; route >= 0; route-- {
		for taken := range 1 << f.cars() {
			t[route][taken] = impossible
			for car, cost := range f[route] {
				if cost != cannot && !has(taken, car) {
					t[route][taken] = min(t[route][taken], cost+t[route+1][with(taken, car)])
				}
			}
		}
	}
	return &t
}

// first returns the first of the assignments with the least total.
func (f fleet) first(t *table) []int {
	var cars []int
	taken := 0
	for route, costs := range f {
		for car, cost := range costs {
			if cost != cannot && !has(taken, car) && cost+t[route+1][with(taken, car)] == t[route][taken] {
				cars, taken = append(cars, car), with(taken, car)
				break
			}
		}
	}
	return cars
}

// prices returns prices that prove the least total, if there is an assignment: in a net in which each route supplies a unit, which goes through a car to an end. Each car lets just one unit through; but the arcs to the cars could carry two, so that they are never full, and no potential of a car is above that of a route by more than the cost.
func (f fleet) prices() (routes, prices []int64) {
	end := len(f) + f.cars()
	b := newBuilder(end + 1)
	for route, costs := range f {
		b.move(route, end, 1)
		for car, cost := range costs {
			if cost != cannot {
				b.add(api.Arc{From: route, To: len(f) + car, Cap: 2, Cost: cost})
			}
		}
	}
	for car := range f.cars() {
		b.add(api.Arc{From: len(f) + car, To: end, Cap: 1})
	}
	_, potentials, _ := Least(b.Net)
	for route := range f {
		routes = append(routes, potentials[end]-potentials[route])
	}
	for car := range f.cars() {
		prices = append(prices, min(0, potentials[len(f)+car]-potentials[end]))
	}
	return routes, prices
}

// isTotal reports whether some cars are an assignment that has a total.
func (f fleet) isTotal(cars []int, total int64) bool {
	taken, sum := 0, int64(0)
	for route, car := range cars {
		cost := f[route][car]
		if cost == cannot || has(taken, car) {
			return false
		}
		taken, sum = with(taken, car), sum+cost
	}
	return sum == total
}

// proves reports whether prices prove their sum.
func (f fleet) proves(routes, prices []int64) bool {
	proved := areFrom(prices, -api.MaxQuantity, 0)
routes:
	for route, costs := range f {
		for car, cost := range costs {
			if cost != cannot && routes[route]+prices[car] > cost {
				proved = false
				break routes
			}
		}
	}
	return proved
}

// has reports whether a car is in a set.
func has(set, car int) bool { return set&(1<<car) != 0 }

// with returns a set to which a car is added.
func with(set, car int) int { return set | 1<<car }
