package depot_test

import (
	"math/rand"
	"slices"
	"testing"

	"coulomb/api"
	"coulomb/depot"
)

// P8.2, P8.4, P8.6, P8.9 to P8.11: the examples of the chapter, each of which has just one answer.
func TestExamples(t *testing.T) {
	flow, _ := least(t, example())
	sameList(t, flow, []int64{2, 2, 1}, "Least")
	cut, lacks, e := depot.Missing(linked(net(3, -3), arc(0, 1, 2, 1)))
	sameList(t, cut, []int{0}, "Missing")
	same(t, answerOf(lacks, e), good[int64](1), "Missing")
	m, e := depot.Assign([][]int64{{4, 1}, {2, 3}})
	sameMatch(t, m, []int{1, 0}, 3, nil)
	same(t, e, api.OK, "Assign")
	checkNoMatch(t, [][]int64{{1, 1}, {-1, -1}}, api.ErrPlan)
	s, cars := exampleSite(), exampleCars()
	nothing := []int64{0, 0, 0}
	plan, _ := best(t, s, cars)
	sameTable(t, plan, table([]int64{0, 2, 1}, nothing), "Plan")
	same(t, answerOf(depot.Price(s, cars, plan)), good[int64](5), "Price of Plan")
	eager, e := depot.Eager(s, cars)
	sameTable(t, eager, table([]int64{2, 2, 2}, nothing), "Eager")
	same(t, e, api.OK, "Eager")
	same(t, answerOf(depot.Price(s, cars, eager)), good[int64](18), "Price of Eager")
	peak, low, _, e := depot.Peak(s, cars)
	same(t, answerOf(peak, e), good[int64](1), "Peak")
	sameTable(t, low, table([]int64{1, 1, 1}, nothing), "Peak")
	n, e := depot.NetOf(with(s, limits(0, 0, 0)), cars)
	same(t, e, api.OK, "NetOf")
	same(t, answerOf(depot.Lacks(n, []int{0})), good[int64](3), "Lacks")
}

// P8.12, G3: no flow costs less than any potentials prove, and what CheckLeast accepts is a least flow.
func TestNotBeaten(t *testing.T) {
	r := chance(820)
	tight := 0
	for range 800 {
		n := drawSmallNet(r, 5, 2)
		var proofs []int64
		_, right, _ := depot.Least(n)
		for range 5 {
			potentials := drawNumbers(r, len(n.Supply), -9, 9)
			if len(right) == len(potentials) && r.Intn(2) == 0 {
				potentials = slices.Clone(right)
				potentials[r.Intn(len(potentials))] += drawInt(r, -1, 1)
			}
			proof, e := depot.Proves(n, potentials)
			same(t, e, api.OK, "Proves", n, potentials)
			proofs = append(proofs, proof)
		}
		for flow := range flows(n) {
			cost, e := depot.Cost(n, flow)
			same(t, e, api.OK, "Cost", n, flow)
			if most := slices.Max(proofs); cost < most {
				t.Errorf("%v: the flow %v costs %d, less than the %d that are proved", n, flow, cost, most)
			} else if cost == most {
				tight++
			}
		}
	}
	if tight < 50 {
		t.Errorf("just %d flows cost what is proved", tight)
	}
}

// P8.15: no possible timetable costs less than the plan, which costs what the least flow of the net does.
func TestBest(t *testing.T) {
	r := chance(821)
	tried, equal := 0, 0
	for range 1500 {
		s, cars := drawYard(r, siteSize{1 + r.Intn(5), 1 + r.Intn(3), drawInt(r, 2, 9), 9})
		table, potentials, e := depot.Plan(s, cars)
		if e != api.OK {
			continue
		}
		same(t, depot.CheckBest(s, cars, table, potentials), api.OK, "CheckBest", s, cars, table, potentials)
		cost := checkBest(t, s, cars)
		for range 4 {
			other := drawTable(r, s, cars)
			price, e := depot.Price(s, cars, other)
			if e != api.OK {
				continue
			}
			tried++
			if price < cost {
				t.Errorf("%v, %v: %v costs just %d, not %d", s, cars, other, price, cost)
			}
			if price == cost {
				equal++
			} else {
				same(t, depot.CheckBest(s, cars, other, potentials), api.ErrSum, "CheckBest", s, cars, other, potentials)
			}
		}
	}
	if tried < 300 || tried-equal < 100 {
		t.Errorf("just %d timetables were tried, of which %d are as good", tried, equal)
	}
}

// costOfPlan is the cost of the plan of a site; ok is false if there is none.
func costOfPlan(t *testing.T, s api.Site, cars []api.Car) (cost int64, ok bool) {
	t.Helper()
	table, _, e := depot.Plan(s, cars)
	if e != api.OK {
		return 0, false
	}
	cost, e = depot.Price(s, cars, table)
	same(t, e, api.OK, "Price", s, cars, table)
	return cost, true
}

// better draws a site with more Limit in a slot, or with a lower Buy.
func better(r *rand.Rand, s api.Site) api.Site {
	slot := r.Intn(len(s.Limit))
	if r.Intn(2) == 0 {
		l := slices.Clone(s.Limit)
		l[slot] = drawInt(r, l[slot], mostCap)
		return with(s, limits(l...))
	}
	l := slices.Clone(s.Buy)
	l[slot] = drawInt(r, s.Sell[slot], l[slot])
	return with(s, buys(l...))
}

// P8.19: more Limit, or a lower Buy, never makes the least cost greater; a greater Final never makes it less.
func TestMore(t *testing.T) {
	r := chance(822)
	less, more := 0, 0
	for range 1200 {
		s, cars := drawYard(r, siteSize{1 + r.Intn(6), 1 + r.Intn(4), pick[int64](r, 3, 9, 1000), pick[int64](r, 9, mostPrice)})
		cost, ok := costOfPlan(t, s, cars)
		if after, still := costOfPlan(t, better(r, s), cars); ok && (!still || after > cost) {
			t.Errorf("%v, %v: %d becomes %d, %t", s, cars, cost, after, still)
		} else if ok && after < cost {
			less++
		}
		wanting := slices.Clone(cars)
		i := r.Intn(len(cars))
		wanting[i].Final = drawInt(r, cars[i].Final, cars[i].Capacity)
		if after, still := costOfPlan(t, s, wanting); still && (!ok || after < cost) {
			t.Errorf("%v, %v: %d, %t becomes %d", s, cars, cost, ok, after)
		} else if still && after > cost {
			more++
		}
	}
	if less < 30 || more < 100 {
		t.Errorf("just %d costs become less, and %d more", less, more)
	}
}

// P8.17: with a lesser limit than the peak that CheckPeak accepts there is no possible timetable, whatever proves the peak.
func TestAcceptedPeaks(t *testing.T) {
	r := chance(823)
	accepted := 0
	for range 600 {
		s, cars := drawThirstyYard(r)
		peak, table, cut, e := depot.Peak(s, cars)
		if e != api.OK || peak == 0 {
			continue
		}
		cut = drawCut(r, netOf(s, cars), cut)
		if depot.CheckPeak(s, cars, peak, table, cut) != api.OK {
			continue
		}
		accepted++
		for less := range peak {
			if _, ok := possibleCost(cappedTo(s, less), cars); ok {
				t.Errorf("%v, %v: the peak %d is accepted, but %d is enough", s, cars, peak, less)
			}
		}
	}
	if accepted < 50 {
		t.Errorf("just %d peaks are accepted", accepted)
	}
}
