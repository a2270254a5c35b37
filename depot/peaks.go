package depot

import (
	"sort"

	"coulomb/api"
)

// Peak returns the least peak of a site. (P8.10)
func Peak(s api.Site, cars []api.Car) (int64, api.Timetable, []int, api.Errno) {
	y, e := newYard(s, cars)
	if e != api.OK {
		return 0, api.Timetable{}, nil, e
	}
	if _, _, e := y.best(); e != api.OK {
		return 0, api.Timetable{}, nil, e
	}
	peak, cut := y.peak()
	t, _, _ := y.capped(peak).best()
	return peak, t, cut, api.OK
}

// CheckPeak reports whether a peak is the least one. (P8.10)
func CheckPeak(s api.Site, cars []api.Car, peak int64, t api.Timetable, cut []int) api.Errno {
	p, e := newPlan(s, cars, t)
	if e != api.OK {
		return e
	}
	if !isFrom(peak, 0, api.MaxCap) {
		return api.ErrRange
	}
	if p.isAbove(peak) {
		return api.ErrLimit
	}
	if peak == 0 {
		if len(cut) > 0 {
			return api.ErrSum
		}
		return api.OK
	}
	lacks, e := Lacks(p.capped(peak-1).net(), cut)
	if e != api.OK {
		return e
	}
	if lacks == 0 {
		return api.ErrSum
	}
	return api.OK
}

// peak returns the least peak, and a cut that lacks something if the site draws less; it is empty if the peak is 0. There has to be a possible timetable.
func (y yard) peak() (peak int64, cut []int) {
	for {
		next, _, e := Missing(y.capped(peak).net())
		if e != api.OK { // nothing is missing
			return peak, cut
		}
		cut, peak = next, y.enough(next)
	}
}

// enough returns the least peak with which a cut lacks nothing.
func (y yard) enough(cut []int) int64 {
	return int64(sort.Search(api.MaxCap, func(peak int) bool {
		lacks, _ := Lacks(y.capped(int64(peak)).net(), cut)
		return lacks == 0
	}))
}

// isAbove reports whether the plan draws more than a peak in a slot.
func (p plan) isAbove(peak int64) bool {
	for slot := range p.slots() {
		if p.drawn(slot) > peak {
			return true
		}
	}
	return false
}
