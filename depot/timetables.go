package depot

import (
	"iter"

	"coulomb/api"
)

// plan is a timetable of a yard.
type plan struct {
	yard
	api.Timetable
}

// Plan returns a possible timetable with the least cost. (P8.6)
func Plan(s api.Site, cars []api.Car) (api.Timetable, []int64, api.Errno) {
	y, e := newYard(s, cars)
	if e != api.OK {
		return api.Timetable{}, nil, e
	}
	return y.best()
}

// CheckPlan reports whether a timetable is possible. (P8.7)
func CheckPlan(s api.Site, cars []api.Car, t api.Timetable) api.Errno {
	_, e := newPlan(s, cars, t)
	return e
}

// Price returns the cost of a timetable. (P8.7)
func Price(s api.Site, cars []api.Car, t api.Timetable) (int64, api.Errno) {
	p, e := newPlan(s, cars, t)
	if e != api.OK {
		return 0, e
	}
	return p.cost(), api.OK
}

// CheckBest reports whether a timetable has the least cost. (P8.8)
func CheckBest(s api.Site, cars []api.Car, t api.Timetable, potentials []int64) api.Errno {
	p, e := newPlan(s, cars, t)
	if e != api.OK {
		return e
	}
	return checkProof(p.net(), potentials, p.cost())
}

// Levels returns the levels of all cars. (P8.7)
func Levels(s api.Site, cars []api.Car, t api.Timetable) ([][]int64, api.Errno) {
	p, e := newPlan(s, cars, t)
	if e != api.OK {
		return nil, e
	}
	var levels [][]int64
	for i := range p.cars {
		levels = append(levels, p.levels(i))
	}
	return levels, api.OK
}

// Eager returns the timetable that charges as soon as possible. (P8.9)
func Eager(s api.Site, cars []api.Car) (api.Timetable, api.Errno) {
	y, e := newYard(s, cars)
	if e != api.OK {
		return api.Timetable{}, e
	}
	p := y.eager()
	if p.check() != api.OK {
		return api.Timetable{}, api.ErrPlan
	}
	return p.Timetable, api.OK
}

// newPlan returns a possible plan, or the errors of CheckPlan.
func newPlan(s api.Site, cars []api.Car, t api.Timetable) (plan, api.Errno) {
	y, e := newYard(s, cars)
	if e != api.OK {
		return plan{}, e
	}
	if !y.fits(t.In) || !y.fits(t.Out) {
		return plan{}, api.ErrEqual
	}
	p := plan{y, t}
	if e := p.check(); e != api.OK {
		return plan{}, e
	}
	return p, api.OK
}

// fits reports whether there is a list for each car, with a number for each slot.
func (y yard) fits(l [][]int64) bool {
	if len(l) != len(y.cars) {
		return false
	}
	for _, numbers := range l {
		if len(numbers) != y.slots() {
			return false
		}
	}
	return true
}

// idle returns the plan in which no car takes or gives back anything.
func (y yard) idle() plan {
	p := plan{yard: y}
	for range y.cars {
		p.In, p.Out = append(p.In, make([]int64, y.slots())), append(p.Out, make([]int64, y.slots()))
	}
	return p
}

// best returns a possible timetable with the least cost, and potentials that prove it; ErrPlan if there is none.
func (y yard) best() (api.Timetable, []int64, api.Errno) {
	net := y.net()
	flow, potentials, e := Least(net)
	if e != api.OK {
		return api.Timetable{}, nil, e
	}
	p := y.idle()
	for i, a := range net.Arcs {
		y.set(p.In, a.From, a.To, flow[i])
		y.set(p.Out, a.To, a.From, flow[i])
	}
	return p.Timetable, potentials, api.OK
}

// set sets the number of a car for a slot, if a node is that of a slot, and another one that of a car.
func (y yard) set(l [][]int64, ofSlot, ofCar int, units int64) {
	slot, hasSlot := y.slotOf(ofSlot)
	i, hasCar := y.carOf(ofCar)
	if hasSlot && hasCar {
		l[i][slot] = units
	}
}

// eager returns the plan in which each car charges as soon as possible, which may not be possible.
func (y yard) eager() plan {
	p := y.idle()
	levels := make([]int64, len(y.cars))
	for i, c := range y.cars {
		levels[i] = c.Start
	}
	for slot, left := range y.Limit {
		for i, c := range y.cars {
			if !isAway(c, slot) {
				p.In[i][slot] = min(c.In, c.Capacity-levels[i], left)
			}
			left -= p.In[i][slot]
			levels[i] += p.In[i][slot] - useAt(c, slot)
		}
	}
	return p
}

// check returns the error of the first condition that does not hold.
func (p plan) check() api.Errno {
	for holds, e := range p.conditions() {
		if !holds {
			return e
		}
	}
	return api.OK
}

// conditions yields whether each condition of a possible timetable holds, and the error if it does not. A condition may be looked at just if those before it hold.
func (p plan) conditions() iter.Seq2[bool, api.Errno] {
	return func(yield func(holds bool, e api.Errno) bool) {
		for slot := range p.slots() {
			for i := range p.cars {
				if !yield(p.isInRange(i, slot), api.ErrRange) {
					return
				}
			}
			if !yield(isFrom(p.drawn(slot), -p.Export[slot], p.Limit[slot]), api.ErrLimit) {
				return
			}
		}
		for i := range p.cars {
			if !yield(p.isCharged(i), api.ErrSum) {
				return
			}
		}
	}
}

// isInRange reports whether a car can take and give back in a slot what it is to.
func (p plan) isInRange(i, slot int) bool {
	c := p.cars[i]
	if isAway(c, slot) {
		c.In, c.Out = 0, 0
	}
	return isFrom(p.In[i][slot], 0, c.In) && isFrom(p.Out[i][slot], 0, c.Out)
}

// isCharged reports whether the levels of a car, and its end, are as they have to be.
func (p plan) isCharged(i int) bool {
	c, levels := p.cars[i], p.levels(i)
	for slot := range p.slots() {
		if !isFrom(levels[slot], max(p.Out[i][slot], useAt(c, slot)), c.Capacity) {
			return false
		}
	}
	return isFrom(levels[p.slots()], c.Final, c.Capacity)
}

// drawn returns what the site draws in a slot; below 0, what it gives back.
func (p plan) drawn(slot int) int64 {
	sum := int64(0)
	for i := range p.cars {
		sum += p.In[i][slot] - p.Out[i][slot]
	}
	return sum
}

// levels returns the levels of a car at the beginning of each slot, and at the end.
func (p plan) levels(i int) []int64 {
	levels := []int64{p.cars[i].Start}
	for slot := range p.slots() {
		levels = append(levels, levels[slot]-p.Out[i][slot]+p.In[i][slot]-useAt(p.cars[i], slot))
	}
	return levels
}

// cost returns what a possible plan costs.
func (p plan) cost() int64 {
	cost := int64(0)
	for slot := range p.slots() {
		drawn := p.drawn(slot)
		cost += max(0, drawn)*p.Buy[slot] + min(0, drawn)*p.Sell[slot]
	}
	return cost
}
