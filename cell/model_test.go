package cell_test

import (
	"slices"
	"testing"

	"coulomb/api"
	"coulomb/cell"
)

// quantityCall is a function that returns a quantity of a cell in a state, and what it has to return.
type quantityCall struct {
	name  string
	call  func(c api.Cell, s api.State) (int64, api.Errno)
	exact func(m exactModel) int64
}

// quantityCalls are all functions that return quantities; those for a current get this one.
func quantityCalls(current int64) []quantityCall {
	of := func(call func(api.Cell, api.State, int64) (int64, api.Errno)) func(api.Cell, api.State) (int64, api.Errno) {
		return func(c api.Cell, s api.State) (int64, api.Errno) { return call(c, s, current) }
	}
	return []quantityCall{
		{"Capacity", cell.Capacity, exactModel.capacity},
		{"Fill", cell.Fill, exactModel.fill},
		{"Health", cell.Health, exactModel.health},
		{"Open", cell.Open, exactModel.open},
		{"Resist", cell.Resist, exactModel.resist},
		{"Voltage", of(cell.Voltage), func(m exactModel) int64 { return m.voltage(current) }},
		{"Heat", of(cell.Heat), func(m exactModel) int64 { return m.heat(current) }},
		{"Energy", of(cell.Energy), func(m exactModel) int64 { return m.energy(current) }},
	}
}

// P2.4, P2.5, P2.6: the examples of the chapter.
func TestExamples(t *testing.T) {
	c, s := model(), half()
	for i, want := range []int64{1000000, 32768, 65536, 3500000, 1000, 3490000, 100, 34900} {
		x := quantityCalls(10000)[i]
		if got := numberOf(x.call(c, s)); got != (numberResult{want, api.OK}) {
			t.Errorf("%s: %v", x.name, got)
		}
	}
	if got := numberOf(cell.Voltage(c, s, -10000)); got != (numberResult{3510000, api.OK}) {
		t.Errorf("Voltage for -10,000: %v", got)
	}
	if got := numberOf(cell.Voltage(c, s, 1048577)); got != (numberResult{0, api.ErrRange}) {
		t.Errorf("Voltage for 1,048,577: %v", got)
	}
	after := stateOf(cell.Step(c, s, api.Input{Current: 10000, Ambient: 300000}))
	if after != (stateResult{api.State{Charge: 489990, Relax: 2500, Temp: 300100, Through: 10000, Age: 1}, api.OK}) {
		t.Errorf("Step: %v", after)
	}
	if got := numberOf(cell.Capacity(c, after.state)); got != (numberResult{999991, api.OK}) {
		t.Errorf("Capacity in the state that follows: %v", got)
	}
	if got := stateOf(cell.Step(c, s, api.Input{Current: 600000, Ambient: 300000})); got.errno != api.OK || got.state.Charge != 0 {
		t.Errorf("Step with 600,000: %v", got)
	}
}

// P2.4, P2.5: quantities at the limits and roundings, one by one.
func TestQuantities(t *testing.T) {
	dead := model(func(c *api.Cell) { c.Capacity, c.CycleLoss, c.Growth = 5, 1<<20, 1<<20 })
	cold := model(func(c *api.Cell) { c.Cold = curve(0, 100, 200000, 300, 400000, 100300) })
	hot := model(func(c *api.Cell) { c.Pair, c.Ocv = 3, curve(0, 0, 65536, 1) })
	for _, x := range []struct {
		name    string
		c       api.Cell
		s       api.State
		current int64
		want    [8]int64
	}{
		{"the capacity is used up", dead, api.State{Charge: 1, Temp: 300000, Through: 1 << 20}, 1000, [8]int64{1, 65536, 0, 4000000, 17384, 3982616, 17, 3982}},
		{"no charge", dead, api.State{Temp: 300000, Through: 1 << 20}, -1, [8]int64{1, 0, 0, 3000000, 17384, 3000018, 0, -4}},
		{"the coldest", cold, api.State{Charge: 500000}, 10, [8]int64{1000000, 32768, 65536, 3500000, 100300, 3498997, 0, 34}},
		{"the warmest", cold, api.State{Charge: 500000, Temp: 400000}, 10, [8]int64{1000000, 32768, 65536, 3500000, 100, 3499999, 0, 34}},
		{"between", cold, api.State{Charge: 500000, Temp: 200000}, 10, [8]int64{1000000, 32768, 65536, 3500000, 300, 3499997, 0, 34}},
		{"a slope", cold, api.State{Charge: 500000, Temp: 199999}, 10, [8]int64{1000000, 32768, 65536, 3500000, 300, 3499997, 0, 34}},
		{"another slope", cold, api.State{Charge: 500000, Temp: 200001}, 10, [8]int64{1000000, 32768, 65536, 3500000, 299, 3499998, 0, 34}},
		{"the relaxation warms", hot, api.State{Charge: 999999, Relax: -1001, Temp: 1}, 0, [8]int64{1000000, 65535, 65536, 0, 1000, 1001, 334, 0}},
		{"the relaxation below 0", hot, api.State{Charge: 1000000, Relax: 1001, Temp: 1}, 1, [8]int64{1000000, 65536, 65536, 1, 1000, -1001, 334, -1}},
		{"all the current", hot, api.State{Charge: 1000000}, 1 << 20, [8]int64{1000000, 65536, 65536, 1, 1000, -1048575, 1099511, -1099511}},
		{"all the current in", hot, api.State{Charge: 1000000}, -1 << 20, [8]int64{1000000, 65536, 65536, 1, 1000, 1048577, 1099511, -1099513}},
	} {
		for i, f := range quantityCalls(x.current) {
			if got := numberOf(f.call(x.c, x.s)); got != (numberResult{x.want[i], api.OK}) {
				t.Errorf("%s: %s: %v", x.name, f.name, got)
			}
		}
	}
}

// P2.4: the resistance is brought into its range.
func TestResistRange(t *testing.T) {
	for _, x := range []struct {
		cold   int64
		extra  int64
		growth int64
		want   int64
	}{{1000, -1000, 0, 0}, {1000, -1001, 0, 0}, {1000, -999, 0, 1}, {0, -1 << 20, 0, 0}, {1 << 20, 0, 0, 1 << 20}, {1 << 20, 1, 0, 1 << 20}, {1<<20 - 1, 1, 0, 1 << 20}, {1 << 20, 1 << 20, 1 << 20, 1 << 20}, {1000, -1 << 20, 1 << 20, 1000}, {0, -3, 262144, 1}, {0, -3, 262143, 0}, {0, -2, 196608, 1}} {
		c := model(func(c *api.Cell) {
			c.Cold, c.Extra, c.Growth, c.Capacity = curve(0, x.cold, 400000, x.cold), x.extra, x.growth, 1<<32
		})
		through := int64(1 << 10) // a wear of 1
		if x.growth == 1<<20 {
			through = 1 << 26 // a wear of 65,536
		}
		if got := numberOf(cell.Resist(c, api.State{Through: through})); got != (numberResult{x.want, api.OK}) {
			t.Errorf("%v: %v", x, got)
		}
	}
}

// P2.4, P2.5: cells and states that are drawn, against the formulas in numbers of any size.
func TestQuantitiesThatAreDrawn(t *testing.T) {
	r := chance(1)
	for range 20000 {
		c, current := drawCell(r), drawInput(r).Current
		s := drawState(r, c)
		for _, f := range quantityCalls(current) {
			if got, want := numberOf(f.call(c, s)), f.exact(modelOf(c, s)); got != (numberResult{want, api.OK}) {
				t.Errorf("%s of %v, %v, %d: %v, not %d", f.name, c, s, current, got, want)
			}
		}
	}
}

// P2.5: the errors of a current.
func TestCurrents(t *testing.T) {
	for _, current := range []int64{-1 << 20, -1<<20 + 1, 0, 1<<20 - 1, 1 << 20} {
		for _, f := range quantityCalls(current)[5:] {
			if got := numberOf(f.call(model(), half())); got != (numberResult{f.exact(modelOf(model(), half())), api.OK}) {
				t.Errorf("%s for %d: %v", f.name, current, got)
			}
		}
	}
	for _, current := range append(wildNumbers(), -1<<20-1, 1<<20+1) {
		for _, f := range quantityCalls(current)[5:] {
			if got := numberOf(f.call(model(), half())); got != (numberResult{0, api.ErrRange}) {
				t.Errorf("%s for %d: %v", f.name, current, got)
			}
		}
	}
}

// P2.6: the relaxation, the temperature and the charge, brought into their ranges and rounded.
func TestStep(t *testing.T) {
	plain := func(changes ...func(c *api.Cell)) api.Cell {
		return model(append([]func(c *api.Cell){func(c *api.Cell) { c.Leak, c.CycleLoss, c.Stress = 0, 0, curve(0, 0, 400000, 0) }}, changes...)...)
	}
	for _, x := range []struct {
		name string
		c    api.Cell
		s    api.State
		in   api.Input
		want api.State
	}{
		{"nothing", plain(), api.State{Charge: 7}, api.Input{}, api.State{Charge: 7}},
		{"the greatest relaxation", plain(func(c *api.Cell) { c.Pair, c.Keep = 1<<20, 0 }), api.State{Charge: 1000000, Relax: 1 << 23}, api.Input{Current: 8000}, api.State{Charge: 992000, Relax: 8388608, Temp: 67172, Through: 8000}},
		{"the least relaxation", plain(func(c *api.Cell) { c.Pair, c.Keep = 1<<20, 0 }), api.State{Relax: 5}, api.Input{Current: -8001}, api.State{Charge: 8001, Relax: -8388608, Temp: 64, Through: 8001}},
		{"all is kept", plain(func(c *api.Cell) { c.Keep = 65536 }), api.State{Charge: 10, Relax: -3}, api.Input{Current: 4}, api.State{Charge: 6, Relax: -3, Through: 4}},
		{"nothing is kept", plain(func(c *api.Cell) { c.Keep = 0 }), api.State{Charge: 10, Relax: -77777}, api.Input{Current: 3}, api.State{Charge: 7, Relax: 1, Temp: 12098, Through: 3}},
		{"rounded down", plain(func(c *api.Cell) { c.Pair = 0 }), api.State{Charge: 10, Relax: -3}, api.Input{Current: 1}, api.State{Charge: 9, Relax: -2, Through: 1}},
		{"rounded down below 0", plain(func(c *api.Cell) { c.Pair = 1 }), api.State{Relax: -3}, api.Input{Current: -1}, api.State{Charge: 1, Relax: -2, Through: 1}},
		{"as warm as can be", plain(func(c *api.Cell) { c.HeatCap = 1 }), api.State{Charge: 1000000, Temp: 400000}, api.Input{Current: 1000, Ambient: 400000}, api.State{Charge: 999000, Relax: 250, Temp: 400000, Through: 1000}},
		{"warmer by a bit", plain(func(c *api.Cell) { c.HeatCap = 100000 }), api.State{Charge: 1000000, Temp: 300000}, api.Input{Current: 10000}, api.State{Charge: 990000, Relax: 2500, Temp: 300001, Through: 10000}},
		{"all heat is lost", plain(func(c *api.Cell) { c.Cool = 65536 }), api.State{Charge: 1000000, Temp: 300000}, api.Input{Current: 1000, Ambient: 5}, api.State{Charge: 999000, Relax: 250, Temp: 6, Through: 1000}},
		{"it cools", plain(func(c *api.Cell) { c.Cool = 1 }), api.State{Charge: 10, Temp: 65537}, api.Input{}, api.State{Charge: 10, Temp: 65535}},
		{"it gets warmer", plain(func(c *api.Cell) { c.Cool = 1 }), api.State{Charge: 10, Temp: 1}, api.Input{Ambient: 65537}, api.State{Charge: 10, Temp: 2}},
		{"not quite", plain(func(c *api.Cell) { c.Cool = 1 }), api.State{Charge: 10, Temp: 1}, api.Input{Ambient: 65536}, api.State{Charge: 10, Temp: 1}},
		{"empty", plain(), api.State{Charge: 10}, api.Input{Current: 11}, api.State{Relax: 2, Through: 11}},
		{"full", plain(), api.State{Charge: 999990}, api.Input{Current: -11}, api.State{Charge: 1000000, Relax: -3, Through: 11}},
		{"it leaks", model(), api.State{Charge: 1000}, api.Input{}, api.State{Charge: 990, Age: 1}},
		{"it leaks all", model(), api.State{Charge: 9}, api.Input{}, api.State{Age: 1}},
		{"full, and worn by this tick", model(func(c *api.Cell) { c.Leak = 0 }), api.State{Charge: 1000000}, api.Input{Current: -2048}, api.State{Charge: 999998, Relax: -512, Temp: 4, Through: 2048, Age: 1}},
		{"full, and older by this tick", model(func(c *api.Cell) { c.Leak, c.AgeLoss, c.Stress = 0, 1<<20, curve(0, 0, 100000, 0, 400000, 300000) }), api.State{Charge: 1000000, Temp: 102048}, api.Input{}, api.State{Charge: 999998, Temp: 102048, Age: 2048}},
		{"used up", model(func(c *api.Cell) { c.Capacity, c.CycleLoss = 100, 1<<20 }), api.State{Charge: 100}, api.Input{Current: -1 << 20}, api.State{Charge: 1, Through: 1 << 20, Age: 1, Relax: -262144, Temp: 400000}},
		{"old", model(func(c *api.Cell) { c.Stress = curve(0, 0, 400000, 3) }), api.State{Charge: 10, Temp: 399999, Age: most - 2}, api.Input{}, api.State{Temp: 399999, Age: most}},
	} {
		if got := stateOf(cell.Step(x.c, x.s, x.in)); got != (stateResult{x.want, api.OK}) {
			t.Errorf("%s: %v, not %v", x.name, got, x.want)
		}
	}
}

// P2.6: the errors of Step.
func TestStepErrors(t *testing.T) {
	wild := []api.Input{{Current: -1<<20 - 1}, {Current: 1<<20 + 1}, {Ambient: -1}, {Ambient: 400001}}
	for _, x := range wildNumbers() {
		wild = append(wild, api.Input{Current: x}, api.Input{Ambient: x}, api.Input{Current: x, Ambient: x})
	}
	for _, in := range wild {
		for _, s := range []api.State{half(), {Through: most, Age: most}} { // that the next state is beyond the limits is found later
			if got := stateOf(cell.Step(model(), s, in)); got != (stateResult{errno: api.ErrRange}) {
				t.Errorf("Step with %v: %v", in, got)
			}
		}
	}
	for _, in := range []api.Input{{Current: -1 << 20}, {Current: 1 << 20}, {}, {Ambient: 400000}} {
		if got, want := stateOf(cell.Step(model(), half(), in)), modelOf(model(), half()).step(in); got != want {
			t.Errorf("Step with %v: %v", in, got)
		}
	}
	for _, x := range []struct {
		s       api.State
		current int64
		want    api.Errno
	}{
		{api.State{Through: most - 5}, 5, api.OK}, {api.State{Through: most - 5}, -5, api.OK}, {api.State{Through: most - 5}, 6, api.ErrOver}, {api.State{Through: most - 5}, -6, api.ErrOver},
		{api.State{Through: most}, 0, api.OK}, {api.State{Through: most}, 1 << 20, api.ErrOver}, {api.State{Through: most}, -1 << 20, api.ErrOver},
		{api.State{Age: most - 1}, 0, api.OK}, {api.State{Age: most}, 0, api.ErrOver}, {api.State{Age: most, Through: most}, 1, api.ErrOver},
	} {
		got := stateOf(cell.Step(model(), x.s, api.Input{Current: x.current}))
		if got.errno != x.want || x.want != api.OK && got.state != (api.State{}) {
			t.Errorf("Step of %v with %d: %v", x.s, x.current, got)
		}
	}
	young := model(func(c *api.Cell) { c.Stress = curve(0, 0, 400000, 1) })
	if got := stateOf(cell.Step(young, api.State{Age: most}, api.Input{})); got != (stateResult{api.State{Age: most}, api.OK}) {
		t.Errorf("without stress: %v", got)
	}
}

// P2.6: cells, states and inputs that are drawn, against the formulas in numbers of any size.
func TestStepsThatAreDrawn(t *testing.T) {
	r := chance(2)
	for range 20000 {
		c, in := drawCell(r), drawInput(r)
		s := drawState(r, c)
		if got, want := stateOf(cell.Step(c, s, in)), modelOf(c, s).step(in); got != want {
			t.Errorf("Step of %v, %v, %v: %v, not %v", c, s, in, got, want)
		}
	}
}

// P2.6: a run is one step behind the other.
func TestRun(t *testing.T) {
	r := chance(3)
	for range 500 {
		c := drawCell(r)
		s := drawState(r, c)
		l := make([]api.Input, r.Intn(30))
		for i := range l {
			l[i] = drawInput(r)
		}
		var want []api.State
		wantErrno := api.OK
		for i, now := 0, s; i < len(l) && wantErrno == api.OK; i++ {
			after := modelOf(c, now).step(l[i])
			want, now, wantErrno = append(want, after.state), after.state, after.errno
		}
		if wantErrno != api.OK {
			want = nil
		}
		if got, e := cell.Run(c, s, l); e != wantErrno || !slices.Equal(got, want) {
			t.Errorf("Run of %v, %v, %v: %v, %d", c, s, l, got, e)
		}
	}
}

// P2.6: empty runs, long ones, and the errors of inputs.
func TestRunErrors(t *testing.T) {
	bad, over := api.Input{Ambient: -1}, api.Input{Current: 1}
	for _, x := range []struct {
		name string
		s    api.State
		l    []api.Input
		want api.Errno
	}{
		{"nil", half(), nil, api.OK},
		{"empty", half(), []api.Input{}, api.OK},
		{"the longest", half(), make([]api.Input, 10000), api.OK},
		{"too long", half(), make([]api.Input, 10001), api.ErrMany},
		{"too long, and wrong", half(), append([]api.Input{bad}, make([]api.Input, 10000)...), api.ErrMany},
		{"too long, and beyond", api.State{Age: most}, make([]api.Input, 10001), api.ErrMany},
		{"the first one is wrong", half(), []api.Input{bad, {}}, api.ErrRange},
		{"the last one is wrong", half(), []api.Input{{}, {}, bad}, api.ErrRange},
		{"wrong, but beyond before", api.State{Through: most}, []api.Input{{}, over, bad}, api.ErrOver},
		{"beyond, but wrong before", api.State{Through: most}, []api.Input{{}, bad, over}, api.ErrRange},
		{"beyond the limit behind some steps", api.State{Age: most - 3}, make([]api.Input, 4), api.ErrOver},
		{"up to the limit", api.State{Age: most - 3}, make([]api.Input, 3), api.OK},
	} {
		got, e := cell.Run(model(), x.s, x.l)
		if e != x.want || e == api.OK && len(got) != len(x.l) || e != api.OK && len(got) != 0 {
			t.Errorf("%s: %d states, %d", x.name, len(got), e)
		}
	}
}
