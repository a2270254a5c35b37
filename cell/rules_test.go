package cell_test

import (
	"math"
	"math/rand"
	"slices"
	"testing"

	"coulomb/api"
	"coulomb/cell"
)

// stateCall is a function of a cell and a state, with all that it needs: it returns its error, and whether its other result is zero.
type stateCall struct {
	name string
	call func(c api.Cell, s api.State) (api.Errno, bool)
}

// stateCalls are all functions of a cell and a state.
func stateCalls(current int64, l []api.Input, lim api.Limits, ambient int64) []stateCall {
	calls := []stateCall{
		{"CheckState", func(c api.Cell, s api.State) (api.Errno, bool) { return cell.CheckState(c, s), true }},
		{"Step", func(c api.Cell, s api.State) (api.Errno, bool) {
			next, e := cell.Step(c, s, api.Input{Current: current, Ambient: ambient})
			return e, next == api.State{}
		}},
		{"Run", func(c api.Cell, s api.State) (api.Errno, bool) {
			states, e := cell.Run(c, s, l)
			return e, len(states) == 0
		}},
		{"MostOut", func(c api.Cell, s api.State) (api.Errno, bool) {
			n, e := cell.MostOut(c, s, lim, ambient)
			return e, n == 0
		}},
		{"MostIn", func(c api.Cell, s api.State) (api.Errno, bool) {
			n, e := cell.MostIn(c, s, lim, ambient)
			return e, n == 0
		}},
	}
	for _, f := range quantityCalls(current) {
		calls = append(calls, stateCall{f.name, func(c api.Cell, s api.State) (api.Errno, bool) {
			n, e := f.call(c, s)
			return e, n == 0
		}})
	}
	return calls
}

// R1, P2.1, P2.4 to P2.7: the errors of cells, and then those of states, come before all others.
func TestErrorsOfCellsAndStates(t *testing.T) {
	good := stateCalls(0, nil, wide(), 0)
	bad := stateCalls(1<<20+1, make([]api.Input, 10001), api.Limits{Out: -1}, -1)
	for _, f := range append(good, bad...) {
		for _, c := range wildCells() {
			for _, s := range []api.State{{}, half(), {Temp: -1}} {
				if e, zero := f.call(c, s); e != api.ErrArg || !zero {
					t.Errorf("%s of %v, %v: %d", f.name, c, s, e)
				}
			}
		}
		for _, s := range wildStates() {
			if e, zero := f.call(model(), s); e != api.ErrRange || !zero {
				t.Errorf("%s of %v: %d", f.name, s, e)
			}
		}
	}
}

// spoil changes all elements of a list, and what lies behind its end if there is room.
func spoil[T any](l []T, wrong T) {
	for i := range l[:cap(l)] {
		l[:cap(l)][i] = wrong
	}
}

// spoilCell changes all points of the curves of a cell.
func spoilCell(c api.Cell) {
	for _, d := range []api.Curve{c.Ocv, c.Cold, c.Stress} {
		spoil(d.X, -7)
		spoil(d.Y, -7)
	}
}

// R5, P2.2, P2.3: cells that are returned share no memory with arguments, or within.
func TestCellsShareNothing(t *testing.T) {
	same := map[string]func(c api.Cell) (api.Cell, api.Errno){
		"Apply":                func(c api.Cell) (api.Cell, api.Errno) { return cell.Apply(c, make([]int64, 7)) },
		"Faulty, without one":  func(c api.Cell) (api.Cell, api.Errno) { return cell.Faulty(c, api.Fault{}) },
		"Faulty, a leak":       func(c api.Cell) (api.Cell, api.Errno) { return cell.Faulty(c, api.Fault{Kind: api.FaultLeak}) },
		"Faulty, a resistance": func(c api.Cell) (api.Cell, api.Errno) { return cell.Faulty(c, api.Fault{Kind: api.FaultHigh}) },
		"Faulty, less":         func(c api.Cell) (api.Cell, api.Errno) { return cell.Faulty(c, api.Fault{Kind: api.FaultLess}) },
		"Faulty, not cooled":   func(c api.Cell) (api.Cell, api.Errno) { return cell.Faulty(c, api.Fault{Kind: api.FaultWarm}) },
	}
	for name, call := range same {
		c := model()
		got, e := call(c)
		again, _ := call(c)
		if e != api.OK || !sameCell(c, model()) {
			t.Errorf("%s: %d, and the argument is %v", name, e, c)
		}
		spoilCell(c)
		if !sameCell(got, model()) {
			t.Errorf("%s shares memory with its argument: %v", name, got)
		}
		spoilCell(again)
		if !sameCell(got, model()) {
			t.Errorf("%s shares memory with the same again: %v", name, got)
		}
		for i, f := range curveFields() {
			one, _ := call(model())
			spoil(f.of(&one).X, -7)
			if slices.Contains(f.of(&one).Y, -7) {
				t.Errorf("%s: X and Y share memory", name)
			}
			for j, g := range curveFields() {
				if i != j && slices.Contains(g.of(&one).X, -7) {
					t.Errorf("%s: %s and %s share memory", name, f.name, g.name)
				}
			}
		}
	}
}

// R5: curves of an argument that share their memory do not do so in the result.
func TestCellsWithOneCurveTwice(t *testing.T) {
	c := model()
	c.Stress = c.Cold
	got, _ := cell.Apply(c, make([]int64, 7))
	spoil(got.Cold.Y, -7)
	if slices.Contains(got.Stress.Y, -7) {
		t.Errorf("curves share memory: %v", got)
	}
}

// R5: no list that is an argument is changed, and no result shares memory with one.
func TestListsShareNothing(t *testing.T) {
	c, tol, b, in := model(), make([]api.Span, 7), halfBox(), box(0, 5, 300000, 300000)
	inputs, offsets, vector := []api.Input{{Current: 5}, {Current: -5}}, []int64{1, 2, 3, 4, 5, 6, 7}, []int64{1, 2, 3, 4, 5}
	cell.Apply(c, offsets)
	cell.Of(vector)
	cell.Possible(c, tol)
	cell.VoltageBox(c, tol, b, span(-5, 5))
	cell.FillBox(c, tol, b)
	cell.SafeOut(c, tol, b, wide(), span(0, 400000))
	states, _ := cell.Run(c, half(), inputs)
	after, _ := cell.StepBox(c, tol, b, in)
	if !slices.Equal(tol, make([]api.Span, 7)) || !slices.Equal(b, halfBox()) || !slices.Equal(in, box(0, 5, 300000, 300000)) || !sameCell(c, model()) ||
		!slices.Equal(inputs, []api.Input{{Current: 5}, {Current: -5}}) || !slices.Equal(offsets, []int64{1, 2, 3, 4, 5, 6, 7}) || !slices.Equal(vector, []int64{1, 2, 3, 4, 5}) {
		t.Errorf("an argument is changed: %v, %v, %v, %v, %v, %v, %v", c, tol, b, in, inputs, offsets, vector)
	}
	want, wantStates := slices.Clone(after), slices.Clone(states)
	spoil(b, span(1, 1))
	spoil(in, span(2, 2))
	spoil(inputs, api.Input{Current: 3})
	second, _ := cell.StepBox(c, tol, halfBox(), box(0, 5, 300000, 300000))
	spoil(second, span(4, 4))
	secondStates, _ := cell.Run(c, half(), []api.Input{{Current: 5}, {Current: -5}})
	spoil(secondStates, api.State{Charge: 5})
	if !slices.Equal(after, want) || !slices.Equal(states, wantStates) {
		t.Errorf("a result shares memory: %v, %v", after, states)
	}
	v := cell.Vector(half())
	spoil(v, -7)
	if got := cell.Vector(half()); !slices.Equal(got, []int64{500000, 0, 300000, 0, 0}) {
		t.Errorf("vectors share memory: %v", got)
	}
}

// R3: nil and empty lists are the same.
func TestNilAndEmpty(t *testing.T) {
	for _, l := range [][]api.Input{nil, {}} {
		if got, e := cell.Run(model(), half(), l); e != api.OK || len(got) != 0 {
			t.Errorf("Run: %v, %d", got, e)
		}
	}
	for _, l := range [][]api.Span{nil, {}} {
		none := make([]api.Span, 7)
		if e := cell.Possible(model(), l); e != api.ErrArg {
			t.Errorf("Possible: %d", e)
		}
		if _, e := cell.FillBox(model(), none, l); e != api.ErrArg {
			t.Errorf("FillBox: %d", e)
		}
		if _, e := cell.StepBox(model(), none, halfBox(), l); e != api.ErrArg {
			t.Errorf("StepBox: %d", e)
		}
	}
}

// pick draws one of some values.
func pick[T any](r *rand.Rand, l []T) T { return l[r.Intn(len(l))] }

// wildArguments are arguments of all kinds, possible ones and others.
type wildArguments struct {
	c          api.Cell
	s          api.State
	x          int64
	lim        api.Limits
	l          []api.Input
	tol, b, in []api.Span
	z          api.Span
	f          api.Fault
	v          []int64
}

// outcome is what one call has returned: its error, and whether everything else is zero.
type outcome struct {
	name  string
	errno api.Errno
	zero  bool
}

// callAll calls all functions that return an error.
func callAll(a wildArguments) []outcome {
	var l []outcome
	for _, f := range stateCalls(a.x, a.l, a.lim, a.x) {
		e, zero := f.call(a.c, a.s)
		l = append(l, outcome{f.name, e, zero})
	}
	for _, f := range boxCalls(a.in, a.lim, a.z, a.z) {
		e, zero := f.call(a.c, a.tol, a.b)
		l = append(l, outcome{f.name, e, zero})
	}
	c, e := cell.Apply(a.c, a.v)
	d, e2 := cell.Faulty(a.c, a.f)
	s, e3 := cell.Of(a.v)
	cell.Vector(a.s)
	n, e4 := cell.New(uint64(a.x)).Below(int(a.x))
	return append(l,
		outcome{"Check", cell.Check(a.c), true}, outcome{"Possible", cell.Possible(a.c, a.tol), true}, outcome{"Apply", e, sameCell(c, api.Cell{})},
		outcome{"Faulty", e2, sameCell(d, api.Cell{})}, outcome{"Of", e3, s == api.State{}}, outcome{"Below", e4, n == 0})
}

// P1, R2, R6, R10: no arguments make a function panic; with an error all other results are zero; a call again has the same error.
func TestAnyArguments(t *testing.T) {
	cells := append(wildCells(), model(), model(), model(func(c *api.Cell) { c.Capacity, c.HeatCap = 1, 1 }))
	for range 500 {
		cells = append(cells, model())
	}
	states := append(wildStates(), api.State{}, half(), half(), half(), api.State{Through: most, Age: most}, api.State{Charge: math.MaxInt64, Relax: math.MinInt64, Temp: math.MinInt64, Through: math.MaxInt64, Age: math.MaxInt64})
	numbers := append(wildNumbers(), -1<<20, -1, 0, 1, 5, 400000, 1<<20)
	limits := append(wildLimits(), wide(), api.Limits{})
	inputs := [][]api.Input{nil, {{}}, {{Current: math.MinInt64}}, {{Ambient: math.MaxInt64}}, make([]api.Input, 3), make([]api.Input, 10001)}
	tolerances := append(wildTolerances(), append(impossible(), make([]api.Span, 7), box(-5, 5, -5, 5, -5, 5, -5, 5, -5, 5, -5, 5, 0, 5))...)
	boxes := append(wildBoxes(), halfBox(), points(0, 0, 0, most, most), box(0, 1<<32, -1<<23, 1<<23, 0, 400000, 0, most, 0, most))
	inputBoxes := append(wildInputBoxes(), box(-1<<20, 1<<20, 0, 400000), points(5, 5))
	spans := append(wildCurrents(), span(0, 5), span(0, 400000))
	faults := []api.Fault{{}, {Kind: 1, A: 5}, {Kind: 3, A: math.MaxInt64}, {Kind: math.MinInt, A: math.MinInt64}, {Kind: 2, A: math.MinInt64}, {Kind: 4, A: 0}}
	vectors := [][]int64{nil, {}, make([]int64, 5), make([]int64, 7), {math.MinInt64, math.MaxInt64, 0, 0, 0}, {math.MinInt64, math.MaxInt64, 0, 0, 0, 0, 0}, {most, most, most, most, most, most, most}}
	r := chance(17)
	for range 3000 {
		a := wildArguments{
			c: pick(r, cells), s: pick(r, states), x: pick(r, numbers), lim: pick(r, limits), l: pick(r, inputs), tol: pick(r, tolerances), b: pick(r, boxes), in: pick(r, inputBoxes),
			z: pick(r, spans), f: pick(r, faults), v: pick(r, vectors),
		}
		if r.Intn(2) == 0 {
			a.tol = make([]api.Span, 7)
		}
		first, again := callAll(a), callAll(a)
		for i, x := range first {
			if x.errno != api.OK && !x.zero {
				t.Errorf("%s returns more than the error %d", x.name, x.errno)
			}
			if x != again[i] {
				t.Errorf("%s does not return the same again: %v, %v", x.name, x, again[i])
			}
		}
	}
}
