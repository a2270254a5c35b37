package depot

import (
	"slices"

	"coulomb/api"
)

// grid is the node of the grid in the net of a site.
const grid = 0

// yard is a site and its cars.
type yard struct {
	api.Site
	cars []api.Car
}

// CheckSite reports whether a site, and its cars, are valid. (P8.5)
func CheckSite(s api.Site, cars []api.Car) api.Errno {
	if len(cars) > api.MaxCars {
		return api.ErrMany
	}
	isWrong := func(c api.Car) bool { return !isCar(c, len(s.Limit)) }
	if !isSite(s) || slices.ContainsFunc(cars, isWrong) {
		return api.ErrArg
	}
	return api.OK
}

// NetOf returns the net of a site. (P8.5)
func NetOf(s api.Site, cars []api.Car) (api.Net, api.Errno) {
	y, e := newYard(s, cars)
	if e != api.OK {
		return api.Net{}, e
	}
	return y.net(), api.OK
}

// newYard returns a yard, or the error of CheckSite.
func newYard(s api.Site, cars []api.Car) (yard, api.Errno) {
	if e := CheckSite(s, cars); e != api.OK {
		return yard{}, e
	}
	return yard{s, cars}, api.OK
}

// isSite reports whether a site is valid.
func isSite(s api.Site) bool {
	slots := len(s.Limit)
	if slots < 1 || slots > api.MaxSlots || len(s.Export) != slots || len(s.Buy) != slots || len(s.Sell) != slots {
		return false
	}
	for slot, buy := range s.Buy {
		if !isFrom(buy, 0, api.MaxPrice) || !isFrom(s.Sell[slot], 0, buy) {
			return false
		}
	}
	return areFrom(s.Limit, 0, api.MaxCap) && areFrom(s.Export, 0, api.MaxCap)
}

// isCar reports whether a car is valid for a site of some slots.
func isCar(c api.Car, slots int) bool {
	if !isFrom(c.Capacity, 1, api.MaxCap) || !areFrom([]int64{c.In, c.Out}, 0, api.MaxCap) || !areFrom([]int64{c.Start, c.Final}, 0, c.Capacity) || len(c.Trips) > api.MaxTrips {
		return false
	}
	back := 0
	for _, trip := range c.Trips {
		if trip.From < back || trip.From >= trip.To || trip.To > slots || !isFrom(trip.Use, 0, c.Capacity) {
			return false
		}
		back = trip.To
	}
	return true
}

// isAway reports whether a car is away in a slot.
func isAway(c api.Car, slot int) bool {
	return slices.ContainsFunc(c.Trips, func(t api.Trip) bool { return t.From <= slot && slot < t.To })
}

// useAt returns what a trip uses that begins in a slot; 0 if none does.
func useAt(c api.Car, slot int) int64 {
	for _, trip := range c.Trips {
		if trip.From == slot {
			return trip.Use
		}
	}
	return 0
}

// slots returns how many slots there are.
func (y yard) slots() int { return len(y.Limit) }

// capped returns the yard of a site that draws at most peak in each slot.
func (y yard) capped(peak int64) yard {
	limit := make([]int64, y.slots())
	for slot := range limit {
		limit[slot] = min(y.Limit[slot], peak)
	}
	y.Limit = limit
	return y
}

// net returns the net of the site and its cars.
func (y yard) net() api.Net {
	b := newBuilder(y.comes(len(y.cars), 0))
	for slot := range y.slots() {
		b.add(api.Arc{From: grid, To: slotNode(slot), Cap: y.Limit[slot], Cost: y.Buy[slot]})
	}
	for slot := range y.slots() {
		b.add(api.Arc{From: slotNode(slot), To: grid, Cap: y.Export[slot], Cost: -y.Sell[slot]})
	}
	for i := range y.cars {
		y.addCar(b, i)
	}
	return b.Net
}

// addCar adds the arcs and the supplies of a car to a net.
func (y yard) addCar(b *builder, i int) {
	c, end := y.cars[i], y.slots()
	for slot := range end {
		comes, used, next := y.comes(i, slot), y.used(i, slot), y.comes(i, slot+1)
		b.add(api.Arc{From: comes, To: used, Cap: c.Capacity}, api.Arc{From: used, To: next, Cap: c.Capacity})
		if !isAway(c, slot) {
			b.add(api.Arc{From: slotNode(slot), To: next, Cap: c.In}, api.Arc{From: used, To: slotNode(slot), Cap: c.Out})
		}
		b.move(grid, used, useAt(c, slot))
	}
	b.add(api.Arc{From: y.comes(i, end), To: y.used(i, end), Cap: c.Capacity}, api.Arc{From: y.used(i, end), To: grid, Cap: c.Capacity - c.Final})
	b.move(y.comes(i, 0), grid, c.Start)
	b.move(grid, y.used(i, end), c.Final)
}

// slotNode returns the node of a slot.
func slotNode(slot int) int { return grid + 1 + slot }

// comes returns the node of the level of a car at the beginning of a slot, or at the end, as it comes.
func (y yard) comes(i, slot int) int { return slotNode(y.slots()) + 2*(i*(y.slots()+1)+slot) }

// used returns the node of the same level as it is used.
func (y yard) used(i, slot int) int { return y.comes(i, slot) + 1 }

// slotOf returns the slot whose node this is; ok is false if there is none.
func (y yard) slotOf(node int) (slot int, ok bool) {
	slot = node - slotNode(0)
	return slot, isIndex(slot, y.slots())
}

// carOf returns the car to whose levels a node belongs; ok is false if there is none.
func (y yard) carOf(node int) (i int, ok bool) {
	first := y.comes(0, 0)
	return (node - first) / (y.comes(1, 0) - first), node >= first
}
