package pack_test

import (
	"math"
	"slices"
	"testing"

	"coulomb/api"
	"coulomb/pack"
)

// checkQuickest checks a plan of Quickest: its flows and ticks are what is wanted, its interval is the first one that needs so many, no interval needs more, and CheckQuickest accepts it.
func checkQuickest(t *testing.T, x task, flows []int) {
	t.Helper()
	q, e := pack.Quickest(x.c, x.lo, x.hi)
	if e != api.OK || !slices.Equal(q.Flows, flows) || q.Ticks != ticksOf(flows) {
		t.Errorf("Quickest of %v: %v, %d, not %v", x, q, e, flows)
		return
	}
	if need, from, to := x.greatestNeed(); q.From != from || q.To != to || q.Ticks != need {
		t.Errorf("Quickest of %v: %v, but the groups %d to %d need %d", x, q, from, to, need)
	}
	if e := pack.CheckQuickest(x.c, x.lo, x.hi, q); e != api.OK {
		t.Errorf("CheckQuickest of %v and %v: %d", x, q, e)
	}
	if need, e := pack.Needs(x.c, x.lo, x.hi, q.From, q.To); need != q.Ticks || e != api.OK {
		t.Errorf("Needs of %v, %d, %d: %d, %d, not %d", x, q.From, q.To, need, e, q.Ticks)
	}
}

// P4.9, P4.15, G3: plans that can be found by hand.
func TestQuickest(t *testing.T) {
	top := slices.Concat(slices.Repeat([]int{100}, 8), make([]int, 8))
	for _, x := range []struct {
		task
		q api.Quick
	}{
		{task{[]int{0, 0, 12, 0, 0}, 2, 3}, api.Quick{Flows: []int{-3, -5, 4, 2}, Ticks: 5, From: 2, To: 2}},
		{task{[]int{10, 0, 0, 0}, 0, 4}, api.Quick{Flows: []int{6, 2, 0}, Ticks: 6, From: 0, To: 0}},
		{task{[]int{8, 0, 4}, 4, 4}, api.Quick{Flows: []int{4, 0}, Ticks: 4, From: 0, To: 0}},
		{task{[]int{8, 0, 4}, 0, 8}, api.Quick{Flows: []int{0, 0}, Ticks: 0, From: 0, To: 0}},
		{task{[]int{4, 10, 4}, 4, 9}, api.Quick{Flows: []int{-1, 0}, Ticks: 1, From: 1, To: 1}},             // 1 / 2, rounded up
		{task{[]int{0, 6, 0, 6, 0}, 0, 4}, api.Quick{Flows: []int{-1, 1, -1, 1}, Ticks: 1, From: 1, To: 1}}, // the first flows are less than they need to be
		{task{[]int{9, 5, 1}, 5, 5}, api.Quick{Flows: []int{4, 4}, Ticks: 4, From: 0, To: 0}},               // as do 0 to 1, 1 to 2, and 2
		{task{[]int{5, 5, 5, 1}, 4, 4}, api.Quick{Flows: []int{1, 2, 3}, Ticks: 3, From: 0, To: 2}},         // no single group but the last one does
		{task{[]int{1, 5, 5, 5}, 4, 4}, api.Quick{Flows: []int{-3, -2, -1}, Ticks: 3, From: 0, To: 0}},      // the other way
		{task{[]int{0, 6, 6, 6, 0}, 0, 4}, api.Quick{Flows: []int{-3, -1, 1, 3}, Ticks: 3, From: 1, To: 3}}, // (18 - 12) / 2
		{task{[]int{7}, 0, 9}, api.Quick{}},
		{task{[]int{100}, 100, 100}, api.Quick{}},
		{task{slices.Repeat([]int{100}, 16), 100, 100}, api.Quick{Flows: make([]int, 15)}},
		{task{top, 50, 50}, api.Quick{Flows: []int{50, 100, 150, 200, 250, 300, 350, 400, 350, 300, 250, 200, 150, 100, 50}, Ticks: 400, From: 0, To: 7}},
	} {
		got, e := pack.Quickest(x.c, x.lo, x.hi)
		if e != api.OK || !slices.Equal(got.Flows, x.q.Flows) || got.Ticks != x.q.Ticks || got.From != x.q.From || got.To != x.q.To {
			t.Errorf("Quickest of %v: %v, %d, not %v", x.task, got, e, x.q)
		}
	}
}

// P4.9, P4.15, G3: for few groups no flows of all that there are have fewer ticks, or as few and are before.
func TestQuickestOfAllFlows(t *testing.T) {
	for x := range smallTasks() {
		if x.isPossible() {
			checkQuickest(t, x, x.tried(ticksOf))
		} else if q, e := pack.Quickest(x.c, x.lo, x.hi); e != api.ErrPlan || len(q.Flows) != 0 || q.Ticks != 0 || q.From != 0 || q.To != 0 {
			t.Errorf("Quickest of %v: %v, %d", x, q, e)
		}
	}
}

// P4.9, P4.15, G3: for more groups.
func TestQuickestOfDrawnLevels(t *testing.T) {
	free := func(int) int { return 0 }
	possible := 0
	for i := range 600 {
		x := drawTask(i)
		q, e := pack.Quickest(x.c, x.lo, x.hi)
		if !x.isPossible() {
			if e != api.ErrPlan || len(q.Flows) != 0 || q.Ticks != 0 || q.From != 0 || q.To != 0 {
				t.Errorf("Quickest of %v: %v, %d", x, q, e)
			}
			continue
		}
		possible++
		if w, ok := x.found(q.Ticks-1, free); ok {
			t.Errorf("Quickest of %v: %v, but the flows %v have fewer ticks", x, q, w.flows)
		}
		w, ok := x.found(q.Ticks, free)
		if !ok {
			t.Errorf("Quickest of %v: %v, but no flows have so few ticks", x, q)
			continue
		}
		checkQuickest(t, x, w.flows)
	}
	if possible < 300 {
		t.Errorf("just %d of the levels come into the band", possible)
	}
}

// P4.10: plans that are right, and plans that are wrong in one thing each.
func TestCheckQuickest(t *testing.T) {
	x := task{[]int{0, 0, 12, 0, 0}, 2, 3}
	even := task{[]int{5, 5, 5, 1}, 4, 4}
	for _, y := range []struct {
		name string
		task
		q api.Quick
		e api.Errno
	}{
		{"the plan of Quickest", x, api.Quick{Flows: []int{-3, -5, 4, 2}, Ticks: 5, From: 2, To: 2}, api.OK},
		{"flows that are not the first ones", x, api.Quick{Flows: []int{-2, -4, 5, 3}, Ticks: 5, From: 2, To: 2}, api.OK},
		{"the first interval", even, api.Quick{Flows: []int{1, 2, 3}, Ticks: 3, From: 0, To: 2}, api.OK},
		{"an interval that is not the first one", even, api.Quick{Flows: []int{1, 2, 3}, Ticks: 3, From: 3, To: 3}, api.OK},
		{"one group", task{[]int{7}, 0, 9}, api.Quick{}, api.OK},
		{"nothing to do, and all groups", task{[]int{7, 7}, 0, 9}, api.Quick{Flows: []int{0}, From: 0, To: 1}, api.OK},
		{"too few flows", x, api.Quick{Flows: []int{-3, -5, 4}, Ticks: 5, From: 2, To: 2}, api.ErrEqual},
		{"too many flows, and a wrong interval", x, api.Quick{Flows: []int{-3, -5, 4, 2, 0}, Ticks: 5, From: 2, To: 7}, api.ErrEqual},
		{"no flows", x, api.Quick{Ticks: 5, From: 2, To: 2}, api.ErrEqual},
		{"a flow that is too great", x, api.Quick{Flows: []int{-3, -5, 4, 2001}, Ticks: 2001, From: 2, To: 2}, api.ErrRange},
		{"a great flow", x, api.Quick{Flows: []int{-3, -5, 4, 2000}, Ticks: 2000, From: 2, To: 2}, api.ErrSum},
		{"a From below 0", x, api.Quick{Flows: []int{-3, -5, 4, 2}, Ticks: 5, From: -1, To: 2}, api.ErrRange},
		{"a To before From", x, api.Quick{Flows: []int{-3, -5, 4, 2}, Ticks: 5, From: 2, To: 1}, api.ErrRange},
		{"a To that is no group, and wrong ticks", x, api.Quick{Flows: []int{-3, -5, 4, 2}, Ticks: 4, From: 2, To: 5}, api.ErrRange},
		{"both are no groups", x, api.Quick{Flows: []int{-3, -5, 4, 2}, Ticks: 5, From: 5, To: 5}, api.ErrRange},
		{"wild groups", x, api.Quick{Flows: []int{-3, -5, 4, 2}, Ticks: 5, From: math.MinInt, To: math.MaxInt}, api.ErrRange},
		{"an interval that needs less", x, api.Quick{Flows: []int{-3, -5, 4, 2}, Ticks: 5, From: 1, To: 2}, api.ErrSum},
		{"all groups", x, api.Quick{Flows: []int{-3, -5, 4, 2}, Ticks: 5, From: 0, To: 4}, api.ErrSum},
		{"ticks that are not those of the flows, but needed", x, api.Quick{Flows: []int{-6, -8, 1, -1}, Ticks: 5, From: 2, To: 2}, api.ErrSum},
		{"more ticks than the flows have", x, api.Quick{Flows: []int{-3, -5, 4, 2}, Ticks: 6, From: 2, To: 2}, api.ErrSum},
		{"fewer ticks than the flows have", x, api.Quick{Flows: []int{-3, -5, 4, 2}, Ticks: 4, From: 2, To: 2}, api.ErrSum},
		{"more ticks than the interval needs", x, api.Quick{Flows: []int{-2, -6, 3, 2}, Ticks: 6, From: 2, To: 2}, api.ErrSum},
		{"levels that are not in the band", x, api.Quick{Flows: []int{-4, -5, 4, 2}, Ticks: 5, From: 2, To: 2}, api.ErrSum},
		{"one level below the band", x, api.Quick{Flows: []int{-3, -5, 5, 1}, Ticks: 5, From: 2, To: 2}, api.ErrSum},
		{"levels that can never be balanced", task{[]int{5, 5}, 4, 4}, api.Quick{Flows: []int{0}, From: 0, To: 1}, api.ErrSum},
		{"ticks below 0", task{[]int{5, 5}, 4, 6}, api.Quick{Flows: []int{0}, Ticks: -1, From: 0, To: 1}, api.ErrSum},
	} {
		if e := pack.CheckQuickest(y.c, y.lo, y.hi, y.q); e != y.e {
			t.Errorf("%s: CheckQuickest of %v and %v: %d, not %d", y.name, y.task, y.q, e, y.e)
		}
	}
}

// P4.10: what intervals need, at the ends and inside.
func TestNeeds(t *testing.T) {
	a, b, c := task{[]int{12, 0, 0}, 4, 4}, task{[]int{0, 0, 12, 0, 0}, 2, 3}, task{[]int{9, 1, 9, 9, 2}, 3, 5}
	for _, x := range []struct {
		task
		from, to, want int
		e              api.Errno
	}{
		{a, 0, 0, 8, api.OK}, {a, 1, 2, 8, api.OK}, {a, 0, 2, 0, api.OK}, {a, 1, 1, 2, api.OK}, {a, 2, 2, 4, api.OK}, {a, 0, 1, 4, api.OK},
		{b, 2, 2, 5, api.OK}, {b, 1, 2, 3, api.OK}, {b, 1, 3, 2, api.OK}, {b, 0, 2, 3, api.OK}, {b, 0, 1, 4, api.OK}, {b, 0, 0, 2, api.OK}, {b, 4, 4, 2, api.OK}, {b, 1, 1, 1, api.OK}, {b, 0, 4, 0, api.OK},
		{c, 0, 0, 4, api.OK}, {c, 0, 1, 0, api.OK}, {c, 1, 1, 1, api.OK}, {c, 2, 3, 4, api.OK}, {c, 2, 4, 5, api.OK}, {c, 1, 4, 1, api.OK}, {c, 0, 4, 0, api.ErrPlan},
		{task{[]int{12, 0, 1}, 4, 4}, 0, 2, 0, api.ErrPlan},
		{task{[]int{12, 0, 1}, 4, 4}, 1, 2, 7, api.OK},
		{task{[]int{12, 0, 1}, 5, 9}, 0, 2, 0, api.ErrPlan},
		{task{[]int{7}, 7, 7}, 0, 0, 0, api.OK},
		{task{[]int{7}, 8, 9}, 0, 0, 0, api.ErrPlan},
		{task{[]int{7}, 0, 6}, 0, 0, 0, api.ErrPlan},
		{task{slices.Repeat([]int{100}, 16), 0, 0}, 1, 15, 1500, api.OK},
		{task{slices.Repeat([]int{100}, 16), 0, 0}, 1, 14, 700, api.OK},
	} {
		if need, e := pack.Needs(x.c, x.lo, x.hi, x.from, x.to); need != x.want || e != x.e {
			t.Errorf("Needs of %v, %d to %d: %d, %d, not %d, %d", x.task, x.from, x.to, need, e, x.want, x.e)
		}
	}
}

// P4.10, P4.15: what all intervals need, and that the greatest need is that of a plan.
func TestNeedsOfAllIntervals(t *testing.T) {
	for x := range smallTasks() {
		checkNeeds(t, x)
	}
	for i := range 300 {
		checkNeeds(t, drawTask(i))
	}
}

// checkNeeds checks what all intervals of a task need.
func checkNeeds(t *testing.T, x task) {
	t.Helper()
	greatest, possible := 0, true
	for from := range x.c {
		for to := from; to < len(x.c); to++ {
			want, ok := x.needOf(from, to)
			errno := api.OK
			if !ok {
				errno, possible = api.ErrPlan, false
			}
			need, e := pack.Needs(x.c, x.lo, x.hi, from, to)
			if need != want || e != errno {
				t.Errorf("Needs of %v, %d to %d: %d, %d, not %d, %d", x, from, to, need, e, want, errno)
			}
			greatest = max(greatest, need)
		}
	}
	q, e := pack.Quickest(x.c, x.lo, x.hi)
	if (e == api.OK) != possible || possible && q.Ticks != greatest {
		t.Errorf("Quickest of %v: %v, %d, but an interval needs %d", x, q, e, greatest)
	}
}

// P4.10, R1: the errors of levels, of the band, of flows, and of the interval, one after the other.
func TestCheckQuickestErrors(t *testing.T) {
	for e, list := range wildLevels() {
		for _, c := range list {
			for _, q := range []api.Quick{{}, {Flows: make([]int, max(len(c)-1, 0))}, {From: -1}} {
				for _, hi := range []int{100, -1} {
					if got := pack.CheckQuickest(c, 0, hi, q); got != e {
						t.Errorf("CheckQuickest of %v: %d, not %d", c, got, e)
					}
					if need, got := pack.Needs(c, 0, hi, q.From, 0); need != 0 || got != e {
						t.Errorf("Needs of %v: %d, %d, not %d", c, need, got, e)
					}
				}
			}
		}
	}
	for _, band := range wildBands() {
		for _, q := range []api.Quick{{}, {Flows: []int{0, 0}}, {Flows: []int{2001, 0}}, {Flows: []int{0, 0}, From: 1}} {
			if e := pack.CheckQuickest([]int{1, 2, 3}, band[0], band[1], q); e != api.ErrArg {
				t.Errorf("CheckQuickest with %v: %d", band, e)
			}
			if need, e := pack.Needs([]int{1, 2, 3}, band[0], band[1], q.From, q.To); need != 0 || e != api.ErrArg {
				t.Errorf("Needs with %v: %d, %d", band, need, e)
			}
		}
	}
	for e, list := range wildFlows() {
		for _, flows := range list {
			for _, q := range []api.Quick{{Flows: flows}, {Flows: flows, From: -1}} {
				if got := pack.CheckQuickest([]int{1, 2, 3}, 0, 100, q); got != e {
					t.Errorf("CheckQuickest of %v: %d, not %d", q, got, e)
				}
			}
		}
	}
	for _, x := range [][2]int{{-1, 0}, {-1, -1}, {1, 0}, {0, 3}, {3, 3}, {3, 2}, {math.MinInt, 2}, {0, math.MaxInt}, {math.MaxInt, math.MinInt}} {
		for _, c := range [][]int{{1, 2, 3}, {100, 100, 100}} { // also if they can never be balanced
			if need, e := pack.Needs(c, 1, 3, x[0], x[1]); need != 0 || e != api.ErrRange {
				t.Errorf("Needs of %v, %v: %d, %d", c, x, need, e)
			}
			if e := pack.CheckQuickest(c, 1, 3, api.Quick{Flows: []int{0, 0}, From: x[0], To: x[1]}); e != api.ErrRange {
				t.Errorf("CheckQuickest of %v, %v: %d", c, x, e)
			}
		}
	}
}

// P4.10, P4.15, G3: of all plans of three groups just those are accepted of which the definition says so; none of them is beaten.
func TestCheckQuickestOfAllPlans(t *testing.T) {
	accepted := 0
	for c := range lists(3, 0, 2) {
		for lo, hi := range bandsUpTo(2) {
			x := task{c, lo, hi}
			best := ticksOf(x.tried(ticksOf))
			for flows := range lists(2, -2, 2) {
				for place := range lists(2, -1, 3) {
					for ticks := -1; ticks <= 3; ticks++ {
						want := api.ErrRange
						if 0 <= place[0] && place[0] <= place[1] && place[1] < 3 {
							want = api.ErrSum
							if need, ok := x.needOf(place[0], place[1]); ok && isInBand(levelsBehind(c, flows), lo, hi) && ticks == ticksOf(flows) && ticks == need {
								want = api.OK
							}
						}
						q := api.Quick{Flows: flows, Ticks: ticks, From: place[0], To: place[1]}
						e := pack.CheckQuickest(c, lo, hi, q)
						if e != want {
							t.Errorf("CheckQuickest of %v and %v: %d, not %d", x, q, e, want)
						}
						if e == api.OK {
							accepted++
							if ticks != best {
								t.Errorf("CheckQuickest of %v and %v: but there are flows with %d ticks", x, q, best)
							}
						}
					}
				}
			}
		}
	}
	if accepted < 100 {
		t.Errorf("just %d plans are accepted", accepted)
	}
}

// P4.11: bands that can be found by hand.
func TestNarrowest(t *testing.T) {
	for _, x := range []struct {
		c             []int
		ticks, lo, hi int
	}{
		{[]int{9, 0, 0}, 0, 0, 9},
		{[]int{9, 0, 0}, 1, 0, 8}, // the last level stays 0 or the second one does
		{[]int{9, 0, 0}, 2, 1, 7},
		{[]int{9, 0, 0}, 5, 2, 4},
		{[]int{9, 0, 0}, 6, 3, 3},
		{[]int{9, 0, 0}, math.MaxInt, 3, 3},
		{[]int{5, 5, 5}, 0, 5, 5},
		{[]int{5, 5, 5}, 7, 5, 5},
		{[]int{0, 0, 1}, 9, 0, 1},
		{[]int{5, 4}, 3, 4, 5},
		{[]int{7}, 0, 7, 7},
		{[]int{0}, 3, 0, 0},
		{[]int{100}, 3, 100, 100},
		{[]int{0, 100}, 0, 0, 100},
		{[]int{0, 100}, 49, 49, 51},
		{[]int{0, 100}, 50, 50, 50},
		{slices.Concat(slices.Repeat([]int{100}, 8), make([]int, 8)), 400, 50, 50},
		{slices.Concat(slices.Repeat([]int{100}, 8), make([]int, 8)), 399, 49, 51},
	} {
		if lo, hi, e := pack.Narrowest(x.c, x.ticks); lo != x.lo || hi != x.hi || e != api.OK {
			t.Errorf("Narrowest of %v in %d: %d, %d, %d, not %d, %d", x.c, x.ticks, lo, hi, e, x.lo, x.hi)
		}
	}
}

// P4.11: for few groups no other flows of so few ticks bring the levels into a narrower band, or into one as narrow that is lower.
func TestNarrowestOfAllFlows(t *testing.T) {
	for n, greatest := range map[int]int{1: 8, 2: 8, 3: 5, 4: 3} {
		for c := range lists(n, 0, greatest) {
			for ticks := range 6 {
				wantLo, wantHi := 0, 1000
				for flows := range lists(n-1, -ticks, ticks) {
					levels := levelsBehind(c, flows)
					lo, hi := slices.Min(levels), slices.Max(levels)
					if lo >= 0 && (hi-lo < wantHi-wantLo || hi-lo == wantHi-wantLo && lo < wantLo) {
						wantLo, wantHi = lo, hi
					}
				}
				if lo, hi, e := pack.Narrowest(c, ticks); lo != wantLo || hi != wantHi || e != api.OK {
					t.Errorf("Narrowest of %v in %d: %d, %d, %d, not %d, %d", c, ticks, lo, hi, e, wantLo, wantHi)
				}
			}
		}
	}
}

// P4.11: for more groups the levels can be in the band that is returned, and in no narrower one, nor in a lower one that is as narrow.
func TestNarrowestOfDrawnLevels(t *testing.T) {
	r := chance(10)
	for i := range 150 {
		c, ticks := drawTask(i).c, r.Intn(60)
		lo, hi, e := pack.Narrowest(c, ticks)
		if e != api.OK || lo < 0 || lo > hi || hi > 100 {
			t.Errorf("Narrowest of %v in %d: %d, %d, %d", c, ticks, lo, hi, e)
			continue
		}
		for from, to := range bandsUpTo(100) {
			isBetter := to-from < hi-lo || to-from == hi-lo && from < lo
			if !isBetter && (from != lo || to != hi) {
				continue
			}
			x := task{c, from, to}
			need, _, _ := x.greatestNeed()
			if isReached := x.isPossible() && need <= ticks; isReached == isBetter {
				t.Errorf("Narrowest of %v in %d: %d, %d, but %d to %d is reached: %t", c, ticks, lo, hi, from, to, isReached)
			}
		}
	}
}

// P4.11, R1: the errors of levels, and then that of ticks.
func TestNarrowestErrors(t *testing.T) {
	for e, list := range wildLevels() {
		for _, c := range list {
			for _, ticks := range []int{0, 5, -1} {
				if lo, hi, got := pack.Narrowest(c, ticks); lo != 0 || hi != 0 || got != e {
					t.Errorf("Narrowest of %v in %d: %d, %d, %d, not %d", c, ticks, lo, hi, got, e)
				}
			}
		}
	}
	for _, ticks := range []int{-1, -5, math.MinInt} {
		if lo, hi, e := pack.Narrowest([]int{5, 9}, ticks); lo != 0 || hi != 0 || e != api.ErrRange {
			t.Errorf("Narrowest in %d: %d, %d, %d", ticks, lo, hi, e)
		}
	}
}
