package cell_test

import (
	"math"
	"slices"
	"testing"

	"coulomb/api"
	"coulomb/cell"
)

// P2.1: numbers at their limits, and curves that go just as far as they may.
func TestCheck(t *testing.T) {
	good := []api.Cell{model()}
	for _, f := range fields() {
		for _, x := range []int64{f.lo, f.lo + 1, f.hi - 1, f.hi} {
			good = append(good, model(func(c *api.Cell) { *f.of(c) = x }))
		}
	}
	for _, f := range curveFields() {
		for _, d := range []api.Curve{curve(0, 0, f.width, 0), curve(0, f.height, f.width, f.height), curve(0, 0, f.width, f.height), curve(0, 0, 1, f.height, f.width, f.height), longCurve(64, f.width)} {
			good = append(good, model(func(c *api.Cell) { *f.of(c) = d }))
		}
	}
	for _, c := range good {
		if e := cell.Check(c); e != api.OK {
			t.Errorf("Check of %v: %d", c, e)
		}
	}
	for _, c := range wildCells() {
		if e := cell.Check(c); e != api.ErrArg {
			t.Errorf("Check of %v: %d", c, e)
		}
	}
}

// P2.1: numbers of a state at their limits, and beyond.
func TestCheckState(t *testing.T) {
	for _, f := range stateFields() {
		for _, x := range []int64{f.lo, f.lo + 1, f.hi - 1, f.hi} {
			s := api.State{}
			*f.of(&s) = x
			if e := cell.CheckState(model(), s); e != api.OK {
				t.Errorf("%s %d: %d", f.name, x, e)
			}
		}
	}
	for _, s := range wildStates() {
		if e := cell.CheckState(model(), s); e != api.ErrRange {
			t.Errorf("CheckState of %v: %d", s, e)
		}
	}
}

// wildStates are not valid for the cell of the examples.
func wildStates() []api.State {
	var l []api.State
	for _, f := range stateFields() {
		for _, x := range append(wildNumbers(), f.lo-1, f.hi+1) {
			s := api.State{}
			*f.of(&s) = x
			l = append(l, s)
		}
	}
	for _, x := range append(wildNumbers(), -1, 1000001, 1<<32, 1<<32+1) {
		l = append(l, api.State{Charge: x, Temp: 300000})
	}
	return append(l, api.State{Charge: 1000000, Through: 1024}, api.State{Charge: 2, Through: most}, api.State{Charge: -1, Through: most})
}

// P2.1: the Charge is at most the capacity in the state.
func TestChargeAndCapacity(t *testing.T) {
	for _, x := range []struct {
		c        api.Cell
		s        api.State
		capacity int64
	}{
		{model(), api.State{}, 1000000},
		{model(), api.State{Through: 1023}, 1000000},
		{model(), api.State{Through: 1024}, 999999},
		{model(), api.State{Through: 1 << 29}, 475712},
		{model(), api.State{Through: 1023999999}, 1},
		{model(), api.State{Through: 1024000000}, 1},
		{model(), api.State{Through: most, Age: most}, 1},
		{model(func(c *api.Cell) { c.AgeLoss = 1 << 20 }), api.State{Through: 1023, Age: 1023}, 1000000},
		{model(func(c *api.Cell) { c.AgeLoss = 1 << 20 }), api.State{Through: 1024, Age: 2048}, 999997},
		{model(func(c *api.Cell) { c.Capacity = 1 << 32 }), api.State{}, 1 << 32},
		{model(func(c *api.Cell) { c.Capacity = 1 }), api.State{}, 1},
	} {
		if got := numberOf(cell.Capacity(x.c, x.s)); got != (numberResult{x.capacity, api.OK}) {
			t.Errorf("Capacity in %v: %v", x.s, got)
		}
		for charge, want := range map[int64]api.Errno{x.capacity: api.OK, x.capacity + 1: api.ErrRange, 0: api.OK, -1: api.ErrRange} {
			s := x.s
			s.Charge = charge
			if e := cell.CheckState(x.c, s); e != want {
				t.Errorf("CheckState of %v: %d", s, e)
			}
		}
	}
}

// P2.2: each offset is added to its number.
func TestApply(t *testing.T) {
	base := model(func(c *api.Cell) { c.Cool, c.Extra, c.Shift = 100, 7, -9 })
	for i, f := range fields()[:7] {
		x := *f.of(&base)
		for _, offset := range []int64{0, 1, -1, max(f.lo-x, -most), min(f.hi-x, most)} {
			offsets := make([]int64, 7)
			offsets[i] = offset
			want := base
			*f.of(&want) = x + offset
			got, e := cell.Apply(base, offsets)
			if e != api.OK || !sameCell(got, want) {
				t.Errorf("%s with the offset %d: %v, %d", f.name, offset, got, e)
			}
		}
	}
	got, e := cell.Apply(base, []int64{-1, 2, -3, 4, -5, 6, -7})
	want := base
	want.Capacity, want.Shift, want.Extra, want.Pair, want.Leak, want.HeatCap, want.Cool = 999999, -7, 4, 504, 5, 1006, 93
	if e != api.OK || !sameCell(got, want) {
		t.Errorf("all offsets: %v, %d", got, e)
	}
}

// P2.2: the errors of Apply.
func TestApplyErrors(t *testing.T) {
	check := func(c api.Cell, offsets []int64, want api.Errno) {
		t.Helper()
		if got, e := cell.Apply(c, offsets); e != want || !sameCell(got, api.Cell{}) {
			t.Errorf("Apply of %v: %v, %d", offsets, got, e)
		}
	}
	for _, n := range []int{0, 1, 6, 8, 14, 1000} {
		check(model(), make([]int64, n), api.ErrArg)
	}
	check(model(), []int64{-1000000, 0, 0, 0, 0, 0}, api.ErrArg)
	c := model()
	for i, f := range fields()[:7] {
		x := *f.of(&c)
		for _, offset := range []int64{f.lo - x - 1, f.hi - x + 1, -most, most} {
			if -most <= offset && offset <= most && (x+offset < f.lo || x+offset > f.hi) {
				offsets := make([]int64, 7)
				offsets[i] = offset
				check(c, offsets, api.ErrRange)
			}
		}
		for _, offset := range wildNumbers() {
			offsets := make([]int64, 7)
			offsets[0], offsets[i] = -1000000, offset // that the cell is not valid is found later
			check(c, offsets, api.ErrArg)
		}
	}
	check(model(func(c *api.Cell) { c.HeatCap = most }), []int64{0, 0, 0, 0, 0, -most, 0}, api.ErrRange)
	check(model(func(c *api.Cell) { c.HeatCap = most }), []int64{0, 0, 0, 0, 0, 1, 0}, api.ErrRange)
	for _, w := range wildCells() {
		check(w, make([]int64, 7), api.ErrArg)
		check(w, []int64{-most, 0, 0, 0, 0, 0, 0}, api.ErrArg)
	}
	check(model(func(c *api.Cell) { c.Capacity = 0 }), []int64{1, 0, 0, 0, 0, 0, 0}, api.ErrArg)
}

// P2.2: tolerances whose ends are at the limits, and beyond.
func TestPossible(t *testing.T) {
	c := model()
	for i, f := range fields()[:7] {
		x := *f.of(&c)
		for _, s := range []api.Span{span(0, 0), span(max(f.lo-x, -most), min(f.hi-x, most)), span(max(f.lo-x, -most), 0), span(0, min(f.hi-x, most)), span(1, 2)} {
			tol := make([]api.Span, 7)
			tol[i] = s
			if e := cell.Possible(c, tol); e != api.OK {
				t.Errorf("%s with the tolerance %v: %d", f.name, s, e)
			}
		}
	}
	for _, tol := range impossible() {
		if e := cell.Possible(c, tol); e != api.ErrRange {
			t.Errorf("Possible of %v: %d", tol, e)
		}
	}
	for _, tol := range wildTolerances() {
		if e := cell.Possible(c, tol); e != api.ErrArg {
			t.Errorf("Possible of %v: %d", tol, e)
		}
	}
	broken := make([]api.Span, 7)
	broken[0], broken[6] = span(-1000000, 0), span(1, 0)
	if e := cell.Possible(c, broken); e != api.ErrArg {
		t.Errorf("Possible of %v: %d", broken, e)
	}
	for _, w := range wildCells() {
		for _, tol := range [][]api.Span{make([]api.Span, 7), impossible()[0], nil} {
			if e := cell.Possible(w, tol); e != api.ErrArg {
				t.Errorf("Possible of %v for %v: %d", tol, w, e)
			}
		}
	}
	if e := cell.Possible(model(func(c *api.Cell) { c.Capacity = 0 }), append(box(1, 1), make([]api.Span, 6)...)); e != api.ErrArg {
		t.Errorf("a cell that offsets repair: %d", e)
	}
}

// P2.3: each fault changes its number, and no other one.
func TestFaulty(t *testing.T) {
	base := model(func(c *api.Cell) { c.Cool, c.Extra = 100, -1048576 })
	for _, x := range []struct {
		f      api.Fault
		change func(c *api.Cell)
	}{
		{api.Fault{}, func(*api.Cell) {}},
		{api.Fault{Kind: api.FaultLeak}, func(*api.Cell) {}},
		{api.Fault{Kind: api.FaultLeak, A: 5}, func(c *api.Cell) { c.Leak = 15 }},
		{api.Fault{Kind: api.FaultLeak, A: 1<<20 - 10}, func(c *api.Cell) { c.Leak = 1 << 20 }},
		{api.Fault{Kind: api.FaultHigh}, func(*api.Cell) {}},
		{api.Fault{Kind: api.FaultHigh, A: 7}, func(c *api.Cell) { c.Extra = -1048569 }},
		{api.Fault{Kind: api.FaultHigh, A: 1 << 20}, func(c *api.Cell) { c.Extra = 0 }},
		{api.Fault{Kind: api.FaultLess}, func(*api.Cell) {}},
		{api.Fault{Kind: api.FaultLess, A: 1}, func(c *api.Cell) { c.Capacity = 999999 }},
		{api.Fault{Kind: api.FaultLess, A: 999999}, func(c *api.Cell) { c.Capacity = 1 }},
		{api.Fault{Kind: api.FaultWarm}, func(c *api.Cell) { c.Cool = 0 }},
	} {
		want := base
		x.change(&want)
		if got, e := cell.Faulty(base, x.f); e != api.OK || !sameCell(got, want) {
			t.Errorf("Faulty with %v: %v, %d", x.f, got, e)
		}
	}
}

// P2.3: the errors of Faulty.
func TestFaultyErrors(t *testing.T) {
	check := func(c api.Cell, f api.Fault, want api.Errno) {
		t.Helper()
		if got, e := cell.Faulty(c, f); e != want || !sameCell(got, api.Cell{}) {
			t.Errorf("Faulty with %v: %v, %d", f, got, e)
		}
	}
	for _, kind := range []int{-1, 5, 6, 100, math.MinInt, math.MaxInt} {
		check(model(), api.Fault{Kind: kind}, api.ErrArg)
		check(model(), api.Fault{Kind: kind, A: 1}, api.ErrArg)
	}
	for kind := range 5 {
		for _, a := range append(wildNumbers(), -1, 1<<20+1) {
			check(model(), api.Fault{Kind: kind, A: a}, api.ErrArg)
		}
	}
	for _, a := range []int64{1, 2, 1 << 20} {
		check(model(), api.Fault{Kind: api.FaultNone, A: a}, api.ErrArg)
		check(model(), api.Fault{Kind: api.FaultWarm, A: a}, api.ErrArg)
	}
	check(model(), api.Fault{Kind: api.FaultLess, A: 1000000}, api.ErrRange)
	check(model(), api.Fault{Kind: api.FaultLess, A: 1 << 20}, api.ErrRange)
	check(model(), api.Fault{Kind: api.FaultLeak, A: 1<<20 - 9}, api.ErrRange)
	check(model(func(c *api.Cell) { c.Extra = 1 }), api.Fault{Kind: api.FaultHigh, A: 1 << 20}, api.ErrRange)
	for _, w := range wildCells() {
		check(w, api.Fault{}, api.ErrArg)
		check(w, api.Fault{Kind: api.FaultLess, A: 1 << 20}, api.ErrArg)
	}
	check(model(func(c *api.Cell) { c.Cool = -1 }), api.Fault{Kind: api.FaultWarm}, api.ErrArg)
	check(model(func(c *api.Cell) { c.Capacity = 1<<32 + 1 }), api.Fault{Kind: api.FaultLess, A: 1}, api.ErrArg)
}

// P2.8: vectors, and back, of any states.
func TestVectorAndOf(t *testing.T) {
	for _, s := range append(wildStates(), api.State{}, api.State{Charge: 1, Relax: 2, Temp: 3, Through: 4, Age: 5}, api.State{Charge: math.MinInt64, Relax: math.MaxInt64, Temp: -1, Through: 7, Age: math.MinInt64}) {
		want := []int64{s.Charge, s.Relax, s.Temp, s.Through, s.Age}
		if got := cell.Vector(s); !slices.Equal(got, want) {
			t.Errorf("Vector of %v: %v", s, got)
		}
		if got := stateOf(cell.Of(want)); got != (stateResult{s, api.OK}) {
			t.Errorf("Of %v: %v", want, got)
		}
	}
	for _, v := range [][]int64{nil, {}, {1}, {1, 2, 3, 4}, {1, 2, 3, 4, 5, 6}, make([]int64, 1000)} {
		if got := stateOf(cell.Of(v)); got != (stateResult{errno: api.ErrArg}) {
			t.Errorf("Of %v: %v", v, got)
		}
	}
}
