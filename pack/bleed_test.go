package pack_test

import (
	"math"
	"slices"
	"testing"

	"coulomb/api"
	"coulomb/pack"
)

// bleeding is levels, a width, and how many groups may bleed at once.
type bleeding struct {
	c           []int
	width, most int
}

// drainOf is the loss, and the schedule, as the definitions say.
func drainOf(x bleeding) api.Drain {
	var d api.Drain
	var order []int
	least := slices.Min(x.c)
	for i, level := range x.c {
		d.Loss = append(d.Loss, max(0, level-(least+x.width)))
		order = append(order, slices.Repeat([]int{i}, d.Loss[i])...)
	}
	rounds := len(order) / x.most
	if len(order)%x.most > 0 {
		rounds++
	}
	d.Ticks = make([][]int, max(slices.Max(d.Loss), rounds))
	for k, i := range order {
		tick := k % len(d.Ticks)
		d.Ticks[tick] = append(d.Ticks[tick], i)
	}
	return d
}

// sameDrain reports whether two plans are equal.
func sameDrain(a, b api.Drain) bool {
	return slices.Equal(a.Loss, b.Loss) && sameLists(a.Ticks, b.Ticks)
}

// checkBleed checks a plan of Bleed against the definition, and that CheckBleed accepts it.
func checkBleed(t *testing.T, x bleeding) {
	t.Helper()
	d, e := pack.Bleed(x.c, x.width, x.most)
	if want := drainOf(x); !sameDrain(d, want) || e != api.OK {
		t.Errorf("Bleed of %v: %v, %d, not %v", x, d, e, want)
	}
	if e := pack.CheckBleed(x.c, x.width, x.most, d); e != api.OK {
		t.Errorf("CheckBleed of %v and %v: %d", x, d, e)
	}
}

// P4.12: plans that can be made by hand.
func TestBleed(t *testing.T) {
	for _, x := range []struct {
		bleeding
		want api.Drain
	}{
		{bleeding{[]int{5, 3, 7}, 1, 2}, api.Drain{Loss: []int{1, 0, 3}, Ticks: [][]int{{0, 2}, {2}, {2}}}},
		{bleeding{[]int{5, 3, 7}, 1, 1}, api.Drain{Loss: []int{1, 0, 3}, Ticks: [][]int{{0}, {2}, {2}, {2}}}},
		{bleeding{[]int{5, 3, 7}, 1, 16}, api.Drain{Loss: []int{1, 0, 3}, Ticks: [][]int{{0, 2}, {2}, {2}}}},
		{bleeding{[]int{5, 3, 7}, 4, 1}, api.Drain{Loss: []int{0, 0, 0}}},
		{bleeding{[]int{5, 3, 7}, 3, 1}, api.Drain{Loss: []int{0, 0, 1}, Ticks: [][]int{{2}}}},
		{bleeding{[]int{5, 3, 7}, 0, 3}, api.Drain{Loss: []int{2, 0, 4}, Ticks: [][]int{{0, 2}, {0, 2}, {2}, {2}}}},
		{bleeding{[]int{9, 1, 9, 9}, 2, 2}, api.Drain{Loss: []int{6, 0, 6, 6}, Ticks: [][]int{{0, 2}, {0, 2}, {0, 2}, {0, 3}, {0, 3}, {0, 3}, {2, 3}, {2, 3}, {2, 3}}}},
		{bleeding{[]int{2, 2, 2, 0}, 0, 2}, api.Drain{Loss: []int{2, 2, 2, 0}, Ticks: [][]int{{0, 1}, {0, 2}, {1, 2}}}},
		{bleeding{[]int{1, 1, 1, 0}, 0, 2}, api.Drain{Loss: []int{1, 1, 1, 0}, Ticks: [][]int{{0, 2}, {1}}}}, // 3 / 2, rounded up
		{bleeding{[]int{4, 4}, 0, 1}, api.Drain{Loss: []int{0, 0}}},
		{bleeding{[]int{7}, 0, 1}, api.Drain{Loss: []int{0}}},
		{bleeding{[]int{100, 0}, 99, 1}, api.Drain{Loss: []int{1, 0}, Ticks: [][]int{{0}}}},
		{bleeding{[]int{100, 0}, 100, 1}, api.Drain{Loss: []int{0, 0}}},
	} {
		if d, e := pack.Bleed(x.c, x.width, x.most); !sameDrain(d, x.want) || e != api.OK {
			t.Errorf("Bleed of %v: %v, %d, not %v", x.bleeding, d, e, x.want)
		}
		checkBleed(t, x.bleeding)
	}
	long := slices.Repeat([]int{100}, 16)
	long[7] = 0
	checkBleed(t, bleeding{long, 0, 1}) // 1,500 ticks
	checkBleed(t, bleeding{long, 0, 16})
}

// P4.12, P4.17: all plans of few groups, and drawn ones.
func TestBleedOfAllLevels(t *testing.T) {
	for n := 1; n <= 4; n++ {
		for c := range lists(n, 0, 4) {
			for width := range 5 {
				for most := range 5 {
					checkBleed(t, bleeding{c, width, most + 1})
				}
			}
		}
	}
	r := chance(11)
	for range 500 {
		checkBleed(t, bleeding{drawLevels(r, 1+r.Intn(16), pick(r, 10, 100)), r.Intn(pick(r, 5, 101)), 1 + r.Intn(16)})
	}
}

// P4.17: no other losses of few groups have a lesser sum, and no schedule has fewer ticks: each tick has at most as many groups as may bleed at once, and each group once at most.
func TestBleedIsNotBeaten(t *testing.T) {
	for c := range lists(3, 0, 4) {
		for width := range 4 {
			for most := 1; most <= 4; most++ {
				d, e := pack.Bleed(c, width, most)
				if e != api.OK || len(d.Loss) != len(c) {
					t.Fatalf("Bleed of %v, %d, %d: %v, %d", c, width, most, d, e)
				}
				for loss := range lists(3, 0, 4) {
					if isApart(c, loss, width) && sumOf(loss) <= sumOf(d.Loss) && !slices.Equal(loss, d.Loss) {
						t.Errorf("Bleed of %v, %d: %v loses no less than %v", c, width, d.Loss, loss)
					}
				}
				if !isApart(c, d.Loss, width) {
					t.Errorf("Bleed of %v, %d: %v is not enough", c, width, d.Loss)
				}
				if fewest := fewestTicks(d.Loss, most, map[[3]int]int{}); len(d.Ticks) != fewest {
					t.Errorf("Bleed of %v, %d, %d: %v, but %d ticks are enough", c, width, most, d, fewest)
				}
			}
		}
	}
}

// isApart reports whether levels are possible behind losses, and at most a width apart then.
func isApart(c, loss []int, width int) bool {
	levels := slices.Clone(c)
	for i := range levels {
		levels[i] -= loss[i]
	}
	return slices.Min(levels) >= 0 && slices.Max(levels)-slices.Min(levels) <= width
}

// fewestTicks is in how few ticks three groups can lose levels: of all ways to begin the best one is found.
func fewestTicks(loss []int, most int, known map[[3]int]int) int {
	key := [3]int(loss)
	if key == [3]int{} {
		return 0
	}
	if ticks, ok := known[key]; ok {
		return ticks
	}
	best := math.MaxInt
	for bleeds := range lists(3, 0, 1) {
		rest := slices.Clone(loss)
		for i := range rest {
			rest[i] -= bleeds[i]
		}
		if n := sumOf(bleeds); n > 0 && n <= most && slices.Min(rest) >= 0 {
			best = min(best, 1+fewestTicks(rest, most, known))
		}
	}
	known[key] = best
	return best
}

// P4.12: plans that are right, and plans that are wrong in one thing each.
func TestCheckBleed(t *testing.T) {
	x := bleeding{[]int{5, 3, 7}, 1, 2} // loses 1, 0 and 3
	narrow := bleeding{[]int{9, 1, 9, 9}, 6, 2}
	for _, y := range []struct {
		name string
		bleeding
		d api.Drain
		e api.Errno
	}{
		{"the plan of Bleed", x, api.Drain{Loss: []int{1, 0, 3}, Ticks: [][]int{{0, 2}, {2}, {2}}}, api.OK},
		{"another tick", x, api.Drain{Loss: []int{1, 0, 3}, Ticks: [][]int{{2}, {2}, {0, 2}}}, api.OK},
		{"another order in a tick", x, api.Drain{Loss: []int{1, 0, 3}, Ticks: [][]int{{2}, {2, 0}, {2}}}, api.OK},
		{"three groups in three ticks", narrow, api.Drain{Loss: []int{2, 0, 2, 2}, Ticks: [][]int{{3, 2}, {0, 3}, {2, 0}}}, api.OK},
		{"nothing to lose", bleeding{[]int{4, 4}, 0, 1}, api.Drain{Loss: []int{0, 0}}, api.OK},
		{"nothing to lose, with an empty list", bleeding{[]int{4, 4}, 0, 1}, api.Drain{Loss: []int{0, 0}, Ticks: [][]int{}}, api.OK},
		{"too few losses", x, api.Drain{Loss: []int{1, 0}, Ticks: [][]int{{0, 2}, {2}, {2}}}, api.ErrEqual},
		{"too many losses", x, api.Drain{Loss: []int{1, 0, 3, 0}, Ticks: [][]int{{0, 2}, {2}, {2}}}, api.ErrEqual},
		{"no losses, and wrong ticks", x, api.Drain{Ticks: [][]int{{7}}}, api.ErrEqual},
		{"a loss that is too great", x, api.Drain{Loss: []int{1, 1, 3}, Ticks: [][]int{{0, 2}, {1, 2}, {2}}}, api.ErrSum},
		{"a loss that is too small", x, api.Drain{Loss: []int{0, 0, 3}, Ticks: [][]int{{2}, {2}, {2}}}, api.ErrSum},
		{"a loss that is not that of the ticks", x, api.Drain{Loss: []int{2, 0, 3}, Ticks: [][]int{{0, 2}, {2}, {2}}}, api.ErrSum},
		{"a loss below 0", x, api.Drain{Loss: []int{1, -1, 3}, Ticks: [][]int{{0, 2}, {2}, {2}}}, api.ErrSum},
		{"too many groups in a tick", narrow, api.Drain{Loss: []int{2, 0, 2, 2}, Ticks: [][]int{{0, 2, 3}, {0, 2}, {3}}}, api.ErrSum},
		{"too many groups in a tick of few", narrow, api.Drain{Loss: []int{2, 0, 2, 2}, Ticks: [][]int{{0, 2, 3}, {0, 2, 3}}}, api.ErrSum},
		{"a number above those of the groups", x, api.Drain{Loss: []int{1, 0, 3}, Ticks: [][]int{{0, 2}, {2, 3}, {2}}}, api.ErrSum},
		{"a number below 0", x, api.Drain{Loss: []int{1, 0, 3}, Ticks: [][]int{{0, 2}, {2}, {-1, 2}}}, api.ErrSum},
		{"wild numbers", x, api.Drain{Loss: []int{1, 0, 3}, Ticks: [][]int{{math.MinInt, 2}, {2, math.MaxInt}, {2}}}, api.ErrSum},
		{"a group twice in a tick", x, api.Drain{Loss: []int{1, 0, 3}, Ticks: [][]int{{0}, {2, 2}, {2}}}, api.ErrSum},
		{"a group twice, apart", bleeding{[]int{5, 3, 7}, 1, 3}, api.Drain{Loss: []int{1, 0, 3}, Ticks: [][]int{{2, 0, 2}, {2}, {}}}, api.ErrSum},
		{"a group in too few ticks", x, api.Drain{Loss: []int{1, 0, 3}, Ticks: [][]int{{0, 2}, {2}, {}}}, api.ErrSum},
		{"a group in no tick", x, api.Drain{Loss: []int{1, 0, 3}, Ticks: [][]int{{2}, {2}, {2}}}, api.ErrSum},
		{"a group in too many ticks", x, api.Drain{Loss: []int{1, 0, 3}, Ticks: [][]int{{0, 2}, {0, 2}, {2}}}, api.ErrSum},
		{"a group that loses nothing in a tick", x, api.Drain{Loss: []int{1, 0, 3}, Ticks: [][]int{{0, 2}, {1, 2}, {2}}}, api.ErrSum},
		{"a group in the place of another one", x, api.Drain{Loss: []int{1, 0, 3}, Ticks: [][]int{{1, 2}, {2}, {2}}}, api.ErrSum},
		{"more ticks than it takes", x, api.Drain{Loss: []int{1, 0, 3}, Ticks: [][]int{{0}, {2}, {2}, {2}}}, api.ErrSum},
		{"an empty tick too many", x, api.Drain{Loss: []int{1, 0, 3}, Ticks: [][]int{{0, 2}, {2}, {2}, {}}}, api.ErrSum},
		{"an empty tick, and nothing to lose", bleeding{[]int{4, 4}, 0, 1}, api.Drain{Loss: []int{0, 0}, Ticks: [][]int{nil}}, api.ErrSum},
		{"no ticks", x, api.Drain{Loss: []int{1, 0, 3}}, api.ErrSum},
	} {
		if e := pack.CheckBleed(y.c, y.width, y.most, y.d); e != y.e {
			t.Errorf("%s: CheckBleed of %v and %v: %d, not %d", y.name, y.bleeding, y.d, e, y.e)
		}
	}
}

// P4.12: all schedules of three groups in up to three ticks.
func TestCheckBleedOfAllSchedules(t *testing.T) {
	for _, x := range []bleeding{{[]int{2, 0, 1}, 0, 1}, {[]int{2, 0, 1}, 0, 2}, {[]int{1, 1, 0}, 0, 2}, {[]int{3, 4, 4}, 1, 1}, {[]int{2, 1, 0}, 0, 16}} {
		want := drainOf(x)
		for n := range 4 {
			for sets := range lists(n, 0, 7) {
				d, count := api.Drain{Loss: want.Loss}, make([]int, 3)
				isRight := n <= len(want.Ticks)
				for _, set := range sets {
					var list []int
					for i := range 3 {
						if set>>i&1 == 1 {
							list = append(list, i)
							count[i]++
						}
					}
					d.Ticks = append(d.Ticks, list)
					isRight = isRight && len(list) <= x.most
				}
				isRight = isRight && slices.Equal(count, want.Loss)
				if e := pack.CheckBleed(x.c, x.width, x.most, d); (e == api.OK) != isRight || e != api.OK && e != api.ErrSum {
					t.Errorf("CheckBleed of %v and %v: %d", x, d, e)
				}
			}
		}
	}
}

// P4.12, R1: the errors of levels, and then those of the other numbers.
func TestBleedErrors(t *testing.T) {
	check := func(x bleeding, want api.Errno) {
		t.Helper()
		if d, e := pack.Bleed(x.c, x.width, x.most); len(d.Loss) != 0 || len(d.Ticks) != 0 || e != want {
			t.Errorf("Bleed of %v: %v, %d, not %d", x, d, e, want)
		}
		for _, d := range []api.Drain{{}, {Loss: make([]int, len(x.c))}, {Loss: []int{5}, Ticks: [][]int{{-1}}}} {
			if e := pack.CheckBleed(x.c, x.width, x.most, d); e != want {
				t.Errorf("CheckBleed of %v and %v: %d, not %d", x, d, e, want)
			}
		}
	}
	for e, list := range wildLevels() {
		for _, c := range list {
			check(bleeding{c, 0, 1}, e)
			check(bleeding{c, -1, 0}, e)
		}
	}
	for _, width := range []int{-1, 101, math.MinInt, math.MaxInt} {
		check(bleeding{[]int{5, 9}, width, 1}, api.ErrRange)
		check(bleeding{[]int{5, 9}, width, 0}, api.ErrRange)
	}
	for _, most := range []int{0, -1, 17, math.MinInt, math.MaxInt} {
		check(bleeding{[]int{5, 9}, 0, most}, api.ErrRange)
		check(bleeding{[]int{5, 9}, 100, most}, api.ErrRange)
	}
}
