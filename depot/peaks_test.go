package depot_test

import (
	"math"
	"math/rand"
	"slices"
	"testing"

	"coulomb/api"
	"coulomb/depot"
)

// peakOf is what a site draws at most in a slot of a timetable.
func peakOf(s api.Site, table api.Timetable) int64 {
	most := int64(math.MinInt64)
	for slot := range s.Limit {
		most = max(most, drawnIn(table, slot))
	}
	return most
}

// checkPeak checks what Peak returns if there is a possible timetable, by the definitions, and returns the peak.
func checkPeak(t *testing.T, s api.Site, cars []api.Car) int64 {
	t.Helper()
	peak, table, cut, e := depot.Peak(s, cars)
	if e != api.OK {
		t.Fatalf("Peak %v %v: %d", s, cars, e)
	}
	if e := wantPlan(s, cars, table); e != api.OK || peak < 0 || peakOf(s, table) > peak {
		t.Fatalf("Peak %v %v: %d, %v, which is %d", s, cars, peak, table, e)
	}
	if peak == 0 {
		sameList(t, cut, nil, "Peak, cut", s, cars)
	} else if n := netOf(cappedTo(s, peak-1), cars); !isCut(n, cut) || lackOf(n, cut) == 0 {
		t.Errorf("Peak %v %v: %d, the cut %v", s, cars, peak, cut)
	}
	same(t, depot.CheckPeak(s, cars, peak, table, cut), api.OK, "CheckPeak", s, cars, peak, table, cut)
	return peak
}

// P8.10: peaks by hand.
func TestPeakByHand(t *testing.T) {
	for _, x := range []struct {
		s    api.Site
		cars []api.Car
		want int64
	}{
		{exampleSite(), exampleCars(), 1}, {exampleSite(), nil, 0}, {even(1, 0, 0, 0, 0), nil, 0}, {exampleSite(), []api.Car{car(10, 2, 0, 3, 3)}, 0}, {exampleSite(), []api.Car{car(10, 2, 0, 0, 4)}, 2}, {exampleSite(), []api.Car{car(10, 2, 0, 0, 6)}, 2}, {exampleSite(), []api.Car{car(10, 2, 0, 1, 4)}, 1}, {exampleSite(), []api.Car{car(10, 2, 0, 0, 1)}, 1},
		{with(exampleSite(), limits(1, 9, 1)), []api.Car{car(10, 9, 0, 0, 7)}, 5}, {with(exampleSite(), limits(0, 9, 3)), []api.Car{car(10, 9, 0, 0, 7)}, 4}, {with(exampleSite(), limits(0, 9, 0)), []api.Car{car(10, 9, 0, 0, 9)}, 9}, {with(exampleSite(), limits(9, 9, 9)), []api.Car{with(car(10, 9, 0, 0, 7), trips(1, 3, 0))}, 7}, {with(exampleSite(), limits(9, 9, 9)), []api.Car{with(car(10, 9, 0, 0, 0), trips(1, 3, 8))}, 8},
		{even(1, 9, 0, 5, 0), []api.Car{car(9, 9, 9, 5, 0), car(9, 9, 9, 0, 5)}, 0}, {even(1, 9, 0, 5, 0), []api.Car{car(9, 9, 9, 5, 1), car(9, 9, 9, 0, 5)}, 1}, {even(2, 9, 0, 5, 0), []api.Car{car(9, 9, 1, 5, 0), car(9, 9, 9, 0, 5)}, 2}, // one car charges the other one
		{busy().s, busy().cars, 1}, {busy().s, busy().cars[:1], 2}, {even(1, mostCap, 0, 1, 0), []api.Car{car(mostCap, mostCap, 0, 0, mostCap)}, mostCap}, {even(1, mostCap, 0, 1, 0), []api.Car{car(mostCap, mostCap, 0, 0, mostCap-1)}, mostCap - 1}, {even(mostSlots, mostCap, mostCap, 1, 1), []api.Car{car(mostCap, mostCap, 0, 0, mostCap)}, 21846},
	} {
		same(t, checkPeak(t, x.s, x.cars), x.want, "the peak", x.s, x.cars)
	}
}

// P8.10, P8.17: drawn small sites, whose timetables are all tried for each peak: with less there is none.
func TestPeakTried(t *testing.T) {
	r := chance(812)
	above := 0
	for range 1000 {
		s, cars := drawThirstyYard(r)
		if _, ok := possibleCost(s, cars); !ok {
			checkNoPlan(t, s, cars, api.ErrPlan)
			continue
		}
		want := int64(0)
		for _, ok := possibleCost(cappedTo(s, want), cars); !ok; _, ok = possibleCost(cappedTo(s, want), cars) {
			want++
		}
		same(t, checkPeak(t, s, cars), want, "the peak", s, cars)
		if want > 0 {
			checkNoPlan(t, cappedTo(s, want-1), cars, api.ErrPlan)
			above++
		}
	}
	if above < 200 {
		t.Errorf("just %d peaks are above 0", above)
	}
}

// P8.10, P8.17: drawn greater sites.
func TestPeakDrawn(t *testing.T) {
	r := chance(813)
	above := 0
	for range 120 {
		s, cars := drawYard(r, siteSize{1 + r.Intn(10), 1 + r.Intn(5), pick[int64](r, 9, 1000, mostCap/2), 9})
		if missing(netOf(s, cars)) > 0 {
			checkNoPlan(t, s, cars, api.ErrPlan)
			continue
		}
		peak := checkPeak(t, s, cars)
		same(t, missing(netOf(cappedTo(s, peak), cars)), 0, "what is missing with the peak", s, cars)
		if peak > 0 && missing(netOf(cappedTo(s, peak-1), cars)) == 0 {
			t.Errorf("Peak %v %v: %d, but nothing is missing with less", s, cars, peak)
		}
		if peak > 0 {
			above++
		}
	}
	if above < 20 {
		t.Errorf("just %d peaks are above 0", above)
	}
	x := greatYard()
	checkPeak(t, x.s, x.cars)
}

// P8.10: errors of CheckPeak, in their order.
func TestCheckPeakErrors(t *testing.T) {
	s, cars := exampleSite(), exampleCars()
	ones, two := table([]int64{1, 1, 1}, []int64{0, 0, 0}), table([]int64{0, 2, 1}, []int64{0, 0, 0})
	_, _, cut, e := depot.Peak(s, cars)
	same(t, e, api.OK, "Peak")
	for _, x := range []struct {
		peak  int64
		table api.Timetable
		cut   []int
		want  api.Errno
	}{
		{1, ones, cut, api.OK}, {1, ones, []int{4, 5, 6, 7, 8, 9, 10, 11}, api.ErrSum}, {1, ones, []int{0}, api.OK}, {1, ones, []int{0, 11}, api.ErrSum},
		{1, two, cut, api.ErrLimit}, {0, ones, cut, api.ErrLimit}, {0, ones, nil, api.ErrLimit}, {0, ones, []int{-1}, api.ErrLimit}, {1, two, []int{-1}, api.ErrLimit},
		{-1, ones, cut, api.ErrRange}, {-1, two, cut, api.ErrRange}, {mostCap + 1, ones, cut, api.ErrRange}, {math.MinInt64, ones, cut, api.ErrRange}, {math.MaxInt64, ones, cut, api.ErrRange}, {1 << 32, ones, cut, api.ErrRange},
		{2, two, cut, api.ErrSum}, {2, ones, cut, api.ErrSum}, {mostCap, ones, cut, api.ErrSum}, {mostCap, ones, []int{0}, api.ErrSum}, {mostCap, ones, []int{12}, api.ErrRange}, {1, ones, nil, api.ErrSum}, {1, ones, []int{}, api.ErrSum},
		{1, ones, []int{12}, api.ErrRange}, {1, ones, []int{-1}, api.ErrRange}, {1, ones, []int{0, 0}, api.ErrRange}, {1, ones, []int{2, 1}, api.ErrRange}, {2, two, []int{1, 1}, api.ErrRange}, {1, ones, []int{0, 1 << 32}, api.ErrRange},
		{1, with(ones, takes(0, 0, 3)), cut, api.ErrRange}, {-1, with(ones, takes(0, 0, 0)), cut, api.ErrSum}, {-1, table([]int64{1, 1, 1}, []int64{1, 0, 0}), cut, api.ErrRange}, {-1, api.Timetable{}, cut, api.ErrEqual}, {0, api.Timetable{}, []int{-1}, api.ErrEqual},
	} {
		same(t, depot.CheckPeak(s, cars, x.peak, x.table, x.cut), x.want, "CheckPeak", x.peak, x.table, x.cut)
	}
	full := []api.Car{car(10, 2, 0, 3, 3)} // the peak is 0
	for _, c := range [][]int{{0}, {1}, {0, 1, 2, 3}, {-1}, {0, 0}, {1 << 40}} {
		same(t, depot.CheckPeak(s, full, 0, idle(3, 1), c), api.ErrSum, "CheckPeak", c)
	}
	for _, c := range [][]int{nil, {}} {
		same(t, depot.CheckPeak(s, full, 0, idle(3, 1), c), api.OK, "CheckPeak", c)
		same(t, depot.CheckPeak(s, full, 1, idle(3, 1), c), api.ErrSum, "CheckPeak", c)
	}
}

// drawCut draws a cut of a net: the one that is given, often changed, or any one.
func drawCut(r *rand.Rand, n api.Net, cut []int) []int {
	if r.Intn(4) == 0 {
		cut = nil
		for node := range n.Supply {
			if r.Intn(2) == 0 {
				cut = append(cut, node)
			}
		}
	}
	if len(cut) > 0 && r.Intn(3) == 0 {
		at := r.Intn(len(cut))
		cut = slices.Delete(slices.Clone(cut), at, at+1)
	}
	return drawAny(r, cut, append(slices.Clone(cut), pick(r, -1, 0, 1, len(n.Supply), len(n.Supply)-1)))
}

// P8.10: drawn peaks, timetables and cuts: they are accepted as they are defined.
func TestCheckPeakDrawn(t *testing.T) {
	r := chance(814)
	count := map[api.Errno]int{}
	for range 3000 {
		s, cars := drawThirstyYard(r)
		peak, table, cut, e := depot.Peak(s, cars)
		if e != api.OK {
			continue
		}
		if other, _, e := depot.Plan(s, cars); e == api.OK && r.Intn(4) == 0 {
			table = other
		}
		peak = drawAny(r, peak, peak+1, peak-1, 0, mostCap+1)
		n := netOf(cappedTo(s, peak-1), cars)
		cut = drawCut(r, n, cut)
		want := api.OK
		switch {
		case peak < 0 || peak > mostCap:
			want = api.ErrRange
		case peakOf(s, table) > peak:
			want = api.ErrLimit
		case peak == 0 && len(cut) > 0:
			want = api.ErrSum
		case peak > 0 && !isCut(n, cut):
			want = api.ErrRange
		case peak > 0 && lackOf(n, cut) == 0:
			want = api.ErrSum
		}
		same(t, depot.CheckPeak(s, cars, peak, table, cut), want, "CheckPeak", s, cars, peak, table, cut)
		count[want]++
	}
	for _, e := range []api.Errno{api.OK, api.ErrRange, api.ErrLimit, api.ErrSum} {
		if count[e] < 20 {
			t.Errorf("just %d peaks have the error %d", count[e], e)
		}
	}
}
