package pack_test

import (
	"math"
	"math/rand"
	"slices"
	"testing"

	"coulomb/api"
	"coulomb/cell"
	"coulomb/pack"
)

// source is the source voltage of a cell, and its resistance, but at least 1.
type source struct{ volt, resist int64 }

// sourceOf is what the definition says of a valid cell in a valid state.
func sourceOf(c api.Cell, s api.State) source {
	open, _ := cell.Open(c, s)
	resist, _ := cell.Resist(c, s)
	return source{open - s.Relax, max(1, resist)}
}

// drawn is the drawn current at a voltage.
func (x source) drawn(v int64) int64 { return floor((x.volt-v)*1000, x.resist) }

// floor is a / b, rounded down; b is above 0.
func floor(a, b int64) int64 {
	quotient := a / b
	if quotient*b > a {
		quotient--
	}
	return quotient
}

// splitOf is the split of a current among some cells, and their voltage, whatever the currents are, as the definition says.
func splitOf(cells []api.Cell, s []api.State, current int64) ([]int64, int64) {
	at := func(v int64) (parts []int64, sum int64) {
		for i, c := range cells {
			part := sourceOf(c, s[i]).drawn(v)
			parts, sum = append(parts, part), sum+part
		}
		return parts, sum
	}
	below, v := int64(-1<<34), int64(1<<34)
	for v-below > 1 {
		middle := (below + v) >> 1
		if _, sum := at(middle); sum <= current {
			v = middle
		} else {
			below = middle
		}
	}
	parts, sum := at(v)
	up, _ := at(v - 1)
	for i := range parts {
		for sum < current && parts[i] < up[i] {
			more := min(current-sum, up[i]-parts[i])
			parts[i], sum = parts[i]+more, sum+more
		}
	}
	return parts, v
}

// sumOf is the sum of some numbers.
func sumOf[T int | int64](l []T) T {
	var sum T
	for _, x := range l {
		sum += x
	}
	return sum
}

// isOver reports whether a current of a split is beyond its limits.
func isOver(parts []int64) bool { return slices.Min(parts) < -1<<20 || slices.Max(parts) > 1<<20 }

// P4.2: splits that can be computed by hand.
func TestSplit(t *testing.T) {
	a, b, c := plain(3500000, 1000), plain(3500000, 2000), plain(3500100, 1000)
	relaxed := [][]api.State{{{Relax: 100}, {Relax: -50}}}
	for _, x := range []struct {
		name    string
		cells   []api.Cell
		s       [][]api.State
		current int64
		parts   []int64
		voltage int64
	}{
		{"one cell gives all of it", []api.Cell{a}, nil, 12345, []int64{12345}, 3487655},
		{"one cell gets all of it", []api.Cell{a}, nil, -12345, []int64{-12345}, 3512345},
		{"one cell, between two voltages", []api.Cell{plain(3500000, 300)}, nil, 5, []int64{5}, 3499999},
		{"the least voltage gives just enough", []api.Cell{plain(3500000, 500)}, nil, 6, []int64{6}, 3499997},
		{"without a resistance it is 1", []api.Cell{plain(3500000, 0)}, nil, 3999, []int64{3999}, 3499997},
		{"a resistance below 0 is brought to 0", []api.Cell{plain(3500000, -5)}, nil, -3001, []int64{-3001}, 3500004},
		{"the lesser resistance gives more", []api.Cell{a, b}, nil, 3000, []int64{2000, 1000}, 3498000},
		{"the lesser resistance gets more", []api.Cell{a, b}, nil, -3000, []int64{-2000, -1000}, 3502000},
		{"what is left goes to the first one", []api.Cell{a, b}, nil, 2, []int64{2, 0}, 3499999},
		{"in another order", []api.Cell{b, a}, nil, 2, []int64{1, 1}, 3499999},
		{"what is left below 0 goes to the first one", []api.Cell{a, b}, nil, -1, []int64{0, -1}, 3500001},
		{"what is left goes to three of four", []api.Cell{a, a, a, a}, nil, 7, []int64{2, 2, 2, 1}, 3499999},
		{"one more than a multiple", []api.Cell{a, a, a, a}, nil, 9, []int64{3, 2, 2, 2}, 3499998},
		{"the first gets up to what it gives at a microvolt less", []api.Cell{plain(3500000, 300), plain(3500000, 300)}, nil, 5, []int64{3, 2}, 3500000},
		{"cells feed another one", []api.Cell{c, a}, nil, 0, []int64{50, -50}, 3500050},
		{"at 0, for an odd difference", []api.Cell{plain(3500101, 1000), a}, nil, 0, []int64{51, -51}, 3500051},
		{"the weaker one rests", []api.Cell{c, a}, nil, 100, []int64{100, 0}, 3500000},
		{"the relaxation is taken from the source voltage", []api.Cell{a, a}, relaxed, 0, []int64{-75, 75}, 3499975},
		{"what flows around is rounded down", []api.Cell{plain(3500007, 3000), plain(3500000, 7000)}, nil, 0, []int64{1, -1}, 3500002},
		{"source voltages below 0", []api.Cell{plain(-8000000, 1000), plain(-8000000, 1000)}, nil, 4, []int64{2, 2}, -8000002},
		{"the greatest current and resistance", []api.Cell{plain(1<<23, 1<<20)}, nil, 1 << 20, []int64{1 << 20}, 1<<23 - 1099512676},
		{"the same the other way", []api.Cell{plain(1<<23, 1<<20)}, nil, -1 << 20, []int64{-1 << 20}, 1<<23 + 1099510580},
	} {
		p, s := together(x.cells...), x.s
		if s == nil {
			s = same(p, api.State{})
		}
		parts, v, e := pack.Split(p, s, 0, x.current)
		if !slices.Equal(parts, x.parts) || v != x.voltage || e != api.OK {
			t.Errorf("%s: %v, %d, %d, not %v, %d", x.name, parts, v, e, x.parts, x.voltage)
		}
		if wantParts, want := splitOf(x.cells, s[0], x.current); !slices.Equal(x.parts, wantParts) || x.voltage != want {
			t.Errorf("%s: the definition says %v, %d", x.name, wantParts, want)
		}
	}
}

// P4.2: the charge, the temperature and the age of a cell have an effect on its source.
func TestSplitOfLivelyCells(t *testing.T) {
	c := lively()
	p := together(c, c)
	s := [][]api.State{{{Charge: 500000, Temp: 300000, Through: 5000000, Age: 70000000}, {Charge: 500000, Temp: 280000, Through: 40000000, Age: 5}}}
	parts, v, e := pack.Split(p, s, 0, 20000)
	wantParts, want := splitOf(p.Groups[0], s[0], 20000)
	if !slices.Equal(parts, wantParts) || v != want || e != api.OK || parts[0] == parts[1] {
		t.Errorf("Split: %v, %d, %d, not %v, %d", parts, v, e, wantParts, want)
	}
}

// P4.2: at the limits of a current it is still split, and beyond them not.
func TestSplitAtItsLimits(t *testing.T) {
	for _, x := range []struct {
		difference, current int64
		parts               []int64
		errno               api.Errno
	}{
		{1 << 21, 0, []int64{1 << 20, -1 << 20}, api.OK},
		{1<<21 + 1, 0, nil, api.ErrOver},
		{1<<21 + 1, 1, nil, api.ErrOver},  // 2^20 + 1, and -2^20
		{1<<21 + 1, -1, nil, api.ErrOver}, // 2^20, and -2^20 - 1
		{1<<21 - 1, 1, []int64{1 << 20, 1 - 1<<20}, api.OK},
		{1<<21 - 1, -1, []int64{1<<20 - 1, -1 << 20}, api.OK},
		{0, 1 << 20, []int64{1 << 19, 1 << 19}, api.OK},
		{0, -1 << 20, []int64{-1 << 19, -1 << 19}, api.OK},
		{2, 1 << 20, []int64{1<<19 + 1, 1<<19 - 1}, api.OK},
		{1 << 20, 1 << 20, []int64{1 << 20, 0}, api.OK},
		{1<<20 + 2, 1 << 20, nil, api.ErrOver},
		{-1<<20 - 2, -1 << 20, nil, api.ErrOver},
	} {
		p := together(plain(3000000+x.difference, 1000), plain(3000000, 1000))
		parts, v, e := pack.Split(p, same(p, api.State{}), 0, x.current)
		if !slices.Equal(parts, x.parts) || e != x.errno || (e != api.OK && v != 0) {
			t.Errorf("Split of %d at a difference of %d: %v, %d, %d, not %v, %d", x.current, x.difference, parts, v, e, x.parts, x.errno)
		}
	}
	// a greater current can be possible where none is too much: here the third cell takes less then
	p := together(plain(4572865, 1000), plain(4572865, 1000), plain(3000000, 1000))
	for current, want := range map[int64]api.Errno{0: api.ErrOver, 1: api.ErrOver, 2: api.OK, 3: api.OK} {
		if parts, _, e := pack.Split(p, same(p, api.State{}), 0, current); e != want {
			t.Errorf("Split of %d: %v, %d, not %d", current, parts, e, want)
		}
	}
}

// P4.2: groups that do not exist, and currents beyond the limits.
func TestSplitErrors(t *testing.T) {
	over := []api.Cell{plain(8000000, 1), plain(0, 1)}
	p := api.Pack{Groups: [][]api.Cell{{plain(0, 5)}, over, {plain(7, 5), plain(7, 5)}}}
	s := same(p, api.State{})
	for _, group := range []int{math.MinInt, -1, 3, 4, 16, math.MaxInt} {
		for _, current := range []int64{0, 5, 1<<20 + 1} {
			if parts, v, e := pack.Split(p, s, group, current); len(parts) != 0 || v != 0 || e != api.ErrRange {
				t.Errorf("Split of the group %d: %v, %d, %d", group, parts, v, e)
			}
		}
	}
	for _, current := range wildCurrents() {
		for group := range 3 {
			if parts, v, e := pack.Split(p, s, group, current); len(parts) != 0 || v != 0 || e != api.ErrRange {
				t.Errorf("Split of %d: %v, %d, %d", current, parts, v, e)
			}
		}
	}
	// each group is on its own
	for group, want := range []api.Errno{api.OK, api.ErrOver, api.OK} {
		if parts, v, e := pack.Split(p, s, group, 4); e != want || (len(parts) == len(p.Groups[group])) != (e == api.OK) {
			t.Errorf("Split of the group %d: %v, %d, %d", group, parts, v, e)
		}
	}
}

// P4.2: splits of drawn packs are those of the definition.
func TestSplitOfDrawnPacks(t *testing.T) {
	r := chance(2)
	possible := 0
	for range 5000 {
		p, s := drawPack(r)
		group, current := r.Intn(len(p.Groups)), drawCurrent(r)
		parts, v, e := pack.Split(p, s, group, current)
		wantParts, want := splitOf(p.Groups[group], s[group], current)
		if isOver(wantParts) {
			if e != api.ErrOver || len(parts) != 0 || v != 0 {
				t.Errorf("Split of %d among %v, %v: %v, %d, %d, not ErrOver", current, p.Groups[group], s[group], parts, v, e)
			}
			continue
		}
		possible++
		if !slices.Equal(parts, wantParts) || v != want || e != api.OK {
			t.Errorf("Split of %d among %v, %v: %v, %d, %d, not %v, %d", current, p.Groups[group], s[group], parts, v, e, wantParts, want)
		}
	}
	if possible < 1000 {
		t.Errorf("just %d of the splits are possible", possible)
	}
}

// P4.13: the currents have the sum I, and are near to what the voltage says; for a greater current no cell gets less.
func TestParallel(t *testing.T) {
	r := chance(3)
	for range 3000 {
		p, s := drawPack(r)
		group, current := r.Intn(len(p.Groups)), drawCurrent(r)
		parts, v, e := pack.Split(p, s, group, current)
		if e != api.OK {
			continue
		}
		if sumOf(parts) != current {
			t.Errorf("the sum of %v is not %d", parts, current)
		}
		for i, part := range parts {
			x := sourceOf(p.Groups[group][i], s[group][i])
			if exact := x.volt*1000 - part*x.resist; exact < (v-1)*1000 || exact >= v*1000+x.resist {
				t.Errorf("%d of a cell with %v at %d", part, x, v)
			}
		}
		checkGreater(t, r, p, s, group, current, parts)
	}
}

// checkGreater checks that for a greater current no cell of a group gets less.
func checkGreater(t *testing.T, r *rand.Rand, p api.Pack, s [][]api.State, group int, current int64, parts []int64) {
	t.Helper()
	for _, more := range []int64{1, 2, 3, 1 + r.Int63n(1000)} {
		greater, _, e := pack.Split(p, s, group, min(current+more, 1<<20))
		if e != api.OK {
			continue
		}
		for i := range parts {
			if greater[i] < parts[i] {
				t.Errorf("of %d and %d more the cells get %v and %v", current, more, parts, greater)
			}
		}
	}
}
