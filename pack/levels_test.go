package pack_test

import (
	"math"
	"slices"
	"testing"

	"coulomb/api"
	"coulomb/pack"
)

// P4.5: the usable charge of a pack, and its weakest group.
func TestUsable(t *testing.T) {
	for _, x := range []struct {
		s       [][]api.State
		charge  int64
		weakest int
	}{
		{[][]api.State{{{Charge: 5}}}, 5, 0},
		{[][]api.State{{{Charge: 5}, {Charge: 7}, {Charge: 1}, {Charge: 2}}}, 15, 0},
		{[][]api.State{{{Charge: 9}}, {{Charge: 4}, {Charge: 4}}, {{Charge: 9}}}, 8, 1},
		{[][]api.State{{{Charge: 9}}, {{Charge: 4}, {Charge: 4}}, {{Charge: 7}}}, 7, 2},
		{[][]api.State{{{Charge: 9}}, {{Charge: 3}, {Charge: 5}}, {{Charge: 8}}, {{Charge: 8}}}, 8, 1}, // the first of three
		{[][]api.State{{{Charge: 0}}, {{Charge: 0}}}, 0, 0},
		{[][]api.State{{{Charge: 1 << 32}, {Charge: 1 << 32}, {Charge: 1 << 32}, {Charge: 1 << 32}}}, 1 << 34, 0},
	} {
		var sizes []int
		for _, states := range x.s {
			sizes = append(sizes, len(states))
		}
		if charge, weakest, e := pack.Usable(sized(sizes...), x.s); charge != x.charge || weakest != x.weakest || e != api.OK {
			t.Errorf("Usable of %v: %d, %d, %d, not %d, %d", x.s, charge, weakest, e, x.charge, x.weakest)
		}
	}
}

// P4.5: levels are usable charges in a unit, rounded down, up to MaxLevel.
func TestLevels(t *testing.T) {
	p := sized(1, 2, 1, 4)
	s := [][]api.State{{{Charge: 999}}, {{Charge: 600}, {Charge: 1400}}, {{Charge: 0}}, {{Charge: 1 << 32}, {Charge: 1 << 32}, {Charge: 1 << 32}, {Charge: 1 << 32}}}
	for _, x := range []struct {
		unit int64
		want []int
	}{
		{1000, []int{0, 2, 0, 100}},
		{1001, []int{0, 1, 0, 100}},
		{10, []int{99, 100, 0, 100}},
		{9, []int{100, 100, 0, 100}},
		{1, []int{100, 100, 0, 100}},
		{20, []int{49, 100, 0, 100}},
		{1 << 28, []int{0, 0, 0, 64}},
		{1<<34/100 + 1, []int{0, 0, 0, 99}},
		{most, []int{0, 0, 0, 0}},
	} {
		if levels, e := pack.Levels(p, s, x.unit); !slices.Equal(levels, x.want) || e != api.OK {
			t.Errorf("Levels in %d: %v, %d, not %v", x.unit, levels, e, x.want)
		}
	}
	for _, unit := range append(wildNumbers(), 0, -1) {
		if levels, e := pack.Levels(p, s, unit); len(levels) != 0 || e != api.ErrArg {
			t.Errorf("Levels in %d: %v, %d", unit, levels, e)
		}
	}
}

// flowCase is flows of some levels, and the levels behind them.
type flowCase struct{ c, flows, want []int }

func flowCases() []flowCase {
	c, flows, want := make([]int, 16), make([]int, 15), make([]int, 16)
	for i := range flows {
		c[i], flows[i] = 100, 2000
		want[i] = 100
	}
	want[0], want[15] = -1900, 2000
	return []flowCase{
		{[]int{8, 0, 4}, []int{4, 0}, []int{4, 4, 4}},
		{[]int{8, 0, 4}, []int{0, 0}, []int{8, 0, 4}},
		{[]int{8, 0, 4}, []int{-1, 3}, []int{9, -4, 7}},
		{[]int{1, 2, 3, 4}, []int{10, -20, 30}, []int{-9, 32, -47, 34}},
		{[]int{7}, nil, []int{7}},
		{[]int{0}, []int{}, []int{0}},
		{[]int{100, 0}, []int{2000}, []int{-1900, 2000}},
		{[]int{100, 0}, []int{-2000}, []int{2100, -2000}},
		{c, flows, want},
	}
}

// P4.6: the levels behind flows.
func TestBehind(t *testing.T) {
	for _, x := range flowCases() {
		if levels, e := pack.Behind(x.c, x.flows); !slices.Equal(levels, x.want) || e != api.OK {
			t.Errorf("Behind of %v and %v: %v, %d, not %v", x.c, x.flows, levels, e, x.want)
		}
		for _, ticks := range []int{2000, 2001, math.MaxInt} {
			if levels, e := pack.After(x.c, x.flows, ticks); !slices.Equal(levels, x.want) || e != api.OK {
				t.Errorf("After of %v, %v and %d: %v, %d, not %v", x.c, x.flows, ticks, levels, e, x.want)
			}
		}
	}
}

// P4.6: the levels behind some ticks, in which all flows move at once.
func TestAfter(t *testing.T) {
	for _, x := range []struct {
		c, flows []int
		ticks    int
		want     []int
	}{
		{[]int{10, 0, 0, 0}, []int{6, 2, 0}, 0, []int{10, 0, 0, 0}},
		{[]int{10, 0, 0, 0}, []int{6, 2, 0}, 1, []int{9, 0, 1, 0}},
		{[]int{10, 0, 0, 0}, []int{6, 2, 0}, 3, []int{7, 1, 2, 0}},
		{[]int{10, 0, 0, 0}, []int{6, 2, 0}, 6, []int{4, 4, 2, 0}},
		{[]int{0, 0, 12, 0, 0}, []int{-3, -5, 4, 2}, 1, []int{1, 0, 10, 0, 1}},
		{[]int{0, 0, 12, 0, 0}, []int{-3, -5, 4, 2}, 4, []int{3, 1, 4, 2, 2}},
		{[]int{0, 0, 12, 0, 0}, []int{-3, -5, 4, 2}, 5, []int{3, 2, 3, 2, 2}},
		{[]int{0, 5}, []int{3}, 2, []int{-2, 7}},
		{[]int{5}, nil, 3, []int{5}},
	} {
		if levels, e := pack.After(x.c, x.flows, x.ticks); !slices.Equal(levels, x.want) || e != api.OK {
			t.Errorf("After of %v, %v and %d: %v, %d, not %v", x.c, x.flows, x.ticks, levels, e, x.want)
		}
	}
}

// wildLevels are no levels, with their error.
func wildLevels() map[api.Errno][][]int {
	return map[api.Errno][][]int{
		api.ErrMany:  {nil, {}, make([]int, 17), make([]int, 100), append(make([]int, 16), -1), slices.Repeat([]int{101}, 17)},
		api.ErrRange: {{-1}, {101}, {0, 5, 101}, {5, -1, 5}, {math.MinInt}, {0, math.MaxInt}, append(make([]int, 15), 101)},
	}
}

// wildFlows are no flows for three levels, with their error.
func wildFlows() map[api.Errno][][]int {
	return map[api.Errno][][]int{
		api.ErrEqual: {nil, {}, {0}, {0, 0, 0}, {2001}, make([]int, 16), {2001, 0, 0}},
		api.ErrRange: {{2001, 0}, {0, 2001}, {-2001, 0}, {0, -2001}, {math.MinInt, 0}, {0, math.MaxInt}},
	}
}

// wildBands are no bands.
func wildBands() [][2]int {
	return [][2]int{{-1, 5}, {5, 4}, {0, 101}, {101, 101}, {1, 0}, {-1, -1}, {100, 99}, {math.MinInt, math.MaxInt}, {math.MaxInt, math.MinInt}, {math.MinInt, math.MinInt}, {math.MaxInt, math.MaxInt}}
}

// P4.6, R1: the errors of levels come before those of flows, and those before that of ticks.
func TestBehindErrors(t *testing.T) {
	for e, list := range wildLevels() {
		for _, c := range list {
			for _, flows := range [][]int{make([]int, max(len(c)-1, 0)), {1, 2, 3}, {2001}} {
				if levels, got := pack.Behind(c, flows); len(levels) != 0 || got != e {
					t.Errorf("Behind of %v and %v: %v, %d, not %d", c, flows, levels, got, e)
				}
				for _, ticks := range []int{0, -1} {
					if levels, got := pack.After(c, flows, ticks); len(levels) != 0 || got != e {
						t.Errorf("After of %v, %v and %d: %v, %d, not %d", c, flows, ticks, levels, got, e)
					}
				}
			}
		}
	}
	for e, list := range wildFlows() {
		for _, flows := range list {
			if levels, got := pack.Behind([]int{1, 2, 3}, flows); len(levels) != 0 || got != e {
				t.Errorf("Behind and %v: %v, %d, not %d", flows, levels, got, e)
			}
			for _, ticks := range []int{0, -1} {
				if levels, got := pack.After([]int{1, 2, 3}, flows, ticks); len(levels) != 0 || got != e {
					t.Errorf("After, %v and %d: %v, %d, not %d", flows, ticks, levels, got, e)
				}
			}
		}
	}
	for _, ticks := range []int{-1, -2, math.MinInt} {
		if levels, e := pack.After([]int{1, 2, 3}, []int{1, 2}, ticks); len(levels) != 0 || e != api.ErrRange {
			t.Errorf("After and %d: %v, %d", ticks, levels, e)
		}
	}
}

// P4.16: on the way each level is between what it was and what it is in the end, and the sum is always the same.
func TestOnTheWay(t *testing.T) {
	r := chance(8)
	for range 2000 {
		n := 1 + r.Intn(16)
		c, flows := drawLevels(r, n, 100), drawLevels(r, n-1, 60)
		for i := range flows {
			flows[i] -= 30
		}
		end, e := pack.Behind(c, flows)
		if e != api.OK {
			t.Fatalf("Behind of %v and %v: %d", c, flows, e)
		}
		for ticks := range 32 {
			levels, e := pack.After(c, flows, ticks)
			if e != api.OK || len(levels) != n || sumOf(levels) != sumOf(c) {
				t.Fatalf("After of %v, %v and %d: %v, %d", c, flows, ticks, levels, e)
			}
			for i, level := range levels {
				if level < min(c[i], end[i]) || level > max(c[i], end[i]) {
					t.Errorf("After of %v, %v and %d: %v, but in the end %v", c, flows, ticks, levels, end)
				}
			}
			if ticks == 0 && !slices.Equal(levels, c) || ticks >= 30 && !slices.Equal(levels, end) {
				t.Errorf("After of %v, %v and %d: %v, but in the end %v", c, flows, ticks, levels, end)
			}
		}
	}
}
