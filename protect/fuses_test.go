package protect_test

import (
	"math"
	"slices"
	"testing"

	"coulomb/api"
	"coulomb/protect"
)

const mostCurrent = 1 << 20 // of a fuse

// never is when a fuse melts that does not.
const never = -1

// checkMelts checks when a fuse melts.
func checkMelts(t *testing.T, f api.Fuse, currents []int64, at int) {
	t.Helper()
	i, melts, e := protect.Melts(f, currents)
	if e != api.OK || melts != (at != never) || i != max(at, 0) {
		t.Errorf("Melts of %v, %d currents: %d, %t, %d, not %d", f, len(currents), i, melts, e, at)
	}
}

// P5.4
func TestMelts(t *testing.T) {
	example := api.Fuse{Rating: 100, Melt: 1000000}
	for _, x := range []struct {
		f        api.Fuse
		currents []int64
		at       int
	}{
		{example, []int64{1000, 1000}, 1},
		{example, []int64{1000}, never},
		{example, []int64{-1000, -1000}, 1},
		{example, []int64{1000, -1000, 1000}, 1},
		{example, []int64{1000, 141, 1000}, 2}, // 999,881 behind the second one
		{example, []int64{1000, 142, 1000}, 1}, // 1,000,164 behind it
		{example, []int64{1000, 0, 0, 1000}, 3},
		{example, nil, never},
		{example, []int64{}, never},
		{api.Fuse{Rating: 3, Melt: 16}, []int64{5}, 0},
		{api.Fuse{Rating: 3, Melt: 17}, []int64{5}, never},
		{api.Fuse{Rating: 3, Melt: 17}, []int64{5, 3, -3, 4}, 3},
		{api.Fuse{Rating: 3, Melt: 17}, []int64{5, 2, 4}, 2},           // 16, 11, 18
		{api.Fuse{Rating: 3, Melt: 17}, []int64{5, 2, 3, 2, 4}, never}, // 16, 11, 11, 6, 13
		{api.Fuse{Rating: 3, Melt: 16}, []int64{0, 0, 0, 5}, 3},
		{api.Fuse{Rating: 3, Melt: 16}, []int64{4, 0, 5}, 2}, // 7, 0 and not below it, 16
		{api.Fuse{Rating: 3, Melt: 17}, []int64{4, 0, 5, 5}, 3},
		{api.Fuse{Rating: 0, Melt: 1}, []int64{0, 0, 1}, 2},
		{api.Fuse{Rating: 0, Melt: 1}, []int64{0, 0, -1, 5}, 2},
		{api.Fuse{Rating: 0, Melt: 2}, []int64{1, 0, 0, 1}, 3},
		{api.Fuse{Rating: 0, Melt: most}, []int64{mostCurrent}, 0},
		{api.Fuse{Rating: 0, Melt: most}, []int64{-mostCurrent}, 0},
		{api.Fuse{Rating: 1, Melt: most}, []int64{mostCurrent, 1, 0, 1}, never},
		{api.Fuse{Rating: 1, Melt: most}, []int64{mostCurrent, 1, 0, 2}, 3},
		{api.Fuse{Rating: mostCurrent, Melt: 1}, []int64{mostCurrent, -mostCurrent, mostCurrent}, never},
		{api.Fuse{Rating: mostCurrent - 1, Melt: 2*mostCurrent - 1}, []int64{mostCurrent}, 0},
		{api.Fuse{Rating: mostCurrent - 1, Melt: 2 * mostCurrent}, []int64{mostCurrent, -mostCurrent}, 1},
	} {
		checkMelts(t, x.f, x.currents, x.at)
	}
}

// P5.4: as many currents as there may be.
func TestMeltsOfManyCurrents(t *testing.T) {
	ones := slices.Repeat([]int64{1}, 2000)
	checkMelts(t, api.Fuse{Melt: 2000}, ones, 1999)
	checkMelts(t, api.Fuse{Melt: 2001}, ones, never)
	checkMelts(t, api.Fuse{Melt: most}, slices.Repeat([]int64{mostCurrent}, 2000), 0)
	checkMelts(t, api.Fuse{Rating: mostCurrent - 1, Melt: most}, slices.Repeat([]int64{-mostCurrent}, 2000), never)
	for _, n := range []int{2001, 2002, 100000} {
		for _, x := range []int64{0, 1, mostCurrent + 1} {
			if i, melts, e := protect.Melts(api.Fuse{Melt: 1}, slices.Repeat([]int64{x}, n)); i != 0 || melts || e != api.ErrMany {
				t.Errorf("Melts of %d currents: %d, %t, %d", n, i, melts, e)
			}
		}
	}
}

// P5.4, R1
func TestErrorsOfMelts(t *testing.T) {
	for _, f := range []api.Fuse{
		{Rating: 0, Melt: 0}, {Rating: 0, Melt: -1}, {Rating: 0, Melt: most + 1}, {Rating: 0, Melt: math.MinInt64}, {Rating: 0, Melt: math.MaxInt64},
		{Rating: -1, Melt: 1}, {Rating: mostCurrent + 1, Melt: 1}, {Rating: math.MinInt64, Melt: 1}, {Rating: math.MaxInt64, Melt: 1}, {Rating: 1 << 32, Melt: 1}, {Rating: -1, Melt: 0},
	} {
		for _, l := range [][]int64{nil, {1000}, {mostCurrent + 1}, make([]int64, 2001)} {
			if i, melts, e := protect.Melts(f, l); i != 0 || melts || e != api.ErrArg {
				t.Errorf("Melts of %v: %d, %t, %d", f, i, melts, e)
			}
		}
	}
	for _, x := range []int64{mostCurrent + 1, -mostCurrent - 1, math.MinInt64, math.MaxInt64, 1 << 32} {
		for at := range 4 {
			l := []int64{1000, 1000, 1000, 1000} // it melts with the second one
			l[at] = x
			if i, melts, e := protect.Melts(api.Fuse{Rating: 100, Melt: 1000000}, l); i != 0 || melts || e != api.ErrRange {
				t.Errorf("Melts of %v: %d, %t, %d", l, i, melts, e)
			}
		}
	}
}

// P5.4: the heat, tick by tick.
func TestMeltsOfDrawnCurrents(t *testing.T) {
	r := chance(54)
	for range 5000 {
		size := int64(1) << r.Intn(21)
		f := api.Fuse{Rating: drawInt(r, 0, size), Melt: drawInt(r, 1, min(3*size*size, most))}
		var l []int64
		heat, at := int64(0), never
		for i := range r.Intn(30) {
			x := drawInt(r, -size, size)
			l = append(l, x)
			heat += x*x - f.Rating*f.Rating
			if heat < 0 {
				heat = 0
			}
			if heat >= f.Melt && at == never {
				at = i
			}
		}
		checkMelts(t, f, l, at)
	}
}

// P5.17: with greater currents a fuse melts not later, and with those up to its rating never.
func TestGreaterCurrentsMeltNotLater(t *testing.T) {
	r := chance(517)
	melted := 0
	for range 5000 {
		size := int64(1) << r.Intn(19)
		f := api.Fuse{Rating: drawInt(r, 0, size), Melt: drawInt(r, 1, 3*size*size)}
		var lesser, greater, rated []int64
		for range 1 + r.Intn(30) {
			x := drawInt(r, -size, size)
			more := max(x, -x) + pick(r, 0, 1, drawInt(r, 0, size))
			lesser, greater, rated = append(lesser, x), append(greater, pick(r, more, -more)), append(rated, drawInt(r, -f.Rating, f.Rating))
		}
		i, melts, _ := protect.Melts(f, lesser)
		k, meltsToo, _ := protect.Melts(f, greater)
		if melts {
			melted++
		}
		if melts && (!meltsToo || k > i) {
			t.Errorf("%v melts with %v at %d, and with %v %t at %d", f, lesser, i, greater, meltsToo, k)
		}
		checkMelts(t, f, rated, never)
		checkMelts(t, f, slices.Repeat([]int64{pick(r, f.Rating, -f.Rating)}, 100), never)
	}
	if melted < 1000 {
		t.Errorf("just %d fuses have melted", melted)
	}
}
