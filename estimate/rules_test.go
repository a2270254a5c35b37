package estimate_test

import (
	"math"
	"slices"
	"testing"

	"coulomb/api"
	"coulomb/estimate"
)

// P3.4 to P3.7, R4: watchers that NewWatcher has not made.
func TestWatchersThatAreNotValid(t *testing.T) {
	for _, w := range []*estimate.Watcher{nil, {}, new(estimate.Watcher)} {
		for range 2 {
			for _, r := range []api.Reading{{}, volt(3490000), volt(1 << 62)} {
				if e := w.Take(r); e != api.ErrNil {
					t.Errorf("Take: %d", e)
				}
			}
			if b := w.Box(); len(b) != 0 {
				t.Errorf("Box: %v", b)
			}
			if b, e := w.Now(); len(b) != 0 || e != api.ErrNil {
				t.Errorf("Now: %v, %d", b, e)
			}
			if got := of(w.Fill()); got != bad[api.Span](api.ErrNil) {
				t.Errorf("Fill: %v", got)
			}
			if got := of(w.Health()); got != bad[api.Span](api.ErrNil) {
				t.Errorf("Health: %v", got)
			}
			for _, l := range []api.Limits{{}, {Out: -1}} {
				if got := of(w.Power(l)); got != bad[int64](api.ErrNil) {
					t.Errorf("Power: %v", got)
				}
			}
			if n, lost := w.Taken(), w.Lost(); n != 0 || lost {
				t.Errorf("Taken and Lost: %d, %t", n, lost)
			}
			if c := w.Copy(); c != nil {
				t.Errorf("Copy: %v", c)
			}
		}
	}
}

// P3.8, P3.9, R4: filters that NewFilter has not made.
func TestFiltersThatAreNotValid(t *testing.T) {
	for _, f := range []*estimate.Filter{nil, {}, new(estimate.Filter)} {
		for range 2 {
			for _, r := range []api.Reading{{}, volt(3490000), volt(1 << 62)} {
				if e := f.Take(r); e != api.ErrNil {
					t.Errorf("Take: %d", e)
				}
			}
			if s := f.State(); s != (api.State{}) {
				t.Errorf("State: %v", s)
			}
			if c := f.Copy(); c != nil {
				t.Errorf("Copy: %v", c)
			}
		}
	}
}

// told is all that a watcher tells.
type told struct {
	box, now       []api.Span
	fill, health   api.Span
	power          int64
	taken          int
	lost           bool
	errnos         [4]api.Errno
	errnoOfReading api.Errno
}

// tells lets a watcher take a reading, and returns all that it tells then.
func tells(w *estimate.Watcher, r api.Reading) told {
	x := told{errnoOfReading: w.Take(r), box: w.Box(), taken: w.Taken(), lost: w.Lost()}
	x.now, x.errnos[0] = w.Now()
	x.fill, x.errnos[1] = w.Fill()
	x.health, x.errnos[2] = w.Health()
	x.power, x.errnos[3] = w.Power(api.Limits{Most: 1 << 23, Out: 1 << 20, Hot: 400000})
	return x
}

// same reports whether two watchers tell the same.
func same(a, b told) bool {
	lists := slices.Equal(a.box, b.box) && slices.Equal(a.now, b.now)
	return lists && a.fill == b.fill && a.health == b.health && a.power == b.power && a.taken == b.taken && a.lost == b.lost && a.errnos == b.errnos && a.errnoOfReading == b.errnoOfReading
}

// P3.4, R4, R10: copies of watchers go on by themselves, as the original does.
func TestCopiesOfWatchers(t *testing.T) {
	readings := []api.Reading{{}, current(5000), both(volt(3490000), current(10000)), {}, volt(3400001), volt(2000000), {}}
	late := watch(func(w *api.Watch) { w.Delay = 3 })
	for i := range readings {
		w := watcher(t, late)
		for _, r := range readings[:i] {
			w.Take(r)
		}
		first, second := w.Copy(), w.Copy()
		var want []told
		for _, r := range readings[i:] {
			want = append(want, tells(first, r))
		}
		third := second.Copy()
		for name, x := range map[string]*estimate.Watcher{"the original": w, "a copy": second, "the copy of a copy": third} {
			for k, r := range readings[i:] {
				if got := tells(x, r); !same(got, want[k]) {
					t.Errorf("%s, copied behind %d readings, %d later: %v, not %v", name, i, k, got, want[k])
				}
			}
		}
	}
}

// P3.8, R4, R10: copies of filters go on by themselves, as the original does.
func TestCopiesOfFilters(t *testing.T) {
	readings := []api.Reading{{}, current(5000), both(volt(3490020), current(10000)), ambient(290000), {}, both(volt(3400001), temp(299990)), current(math.MaxInt64), {}}
	for i := range readings {
		f := filter(t, model(func(c *api.Cell) { c.Cool = 5000 }), api.Gains{Charge: 65536, Relax: 3000, Temp: 50000}, half())
		for _, r := range readings[:i] {
			f.Take(r)
		}
		first, second := f.Copy(), f.Copy()
		var want []result[api.State]
		for _, r := range readings[i:] {
			e := first.Take(r)
			want = append(want, of(first.State(), e))
		}
		third := second.Copy()
		for name, x := range map[string]*estimate.Filter{"the original": f, "a copy": second, "the copy of a copy": third} {
			for k, r := range readings[i:] {
				e := x.Take(r)
				if got := of(x.State(), e); got != want[k] {
					t.Errorf("%s, copied behind %d readings, %d later: %v, not %v", name, i, k, got, want[k])
				}
			}
		}
	}
}

// spoil changes all elements of a list, and what lies behind its end if there is room.
func spoil[T any](l []T, wrong T) {
	for i := range l[:cap(l)] {
		l[:cap(l)][i] = wrong
	}
}

// spoilCell changes all points of the curves of a cell.
func spoilCell(c api.Cell) {
	for _, d := range []api.Curve{c.Ocv, c.Cold, c.Stress} {
		spoil(d.X, -7)
		spoil(d.Y, -7)
	}
}

// sameCurves reports whether the curves of two cells are equal.
func sameCurves(a, b api.Cell) bool {
	equal := func(c, d api.Curve) bool { return slices.Equal(c.X, d.X) && slices.Equal(c.Y, d.Y) }
	return equal(a.Ocv, b.Ocv) && equal(a.Cold, b.Cold) && equal(a.Stress, b.Stress)
}

// P3.4, P3.6, R5: a watcher shares no memory with its watch, nor with what it returns, and changes neither.
func TestWatchersShareNothing(t *testing.T) {
	late := func() api.Watch { return watch(func(w *api.Watch) { w.Delay = 2 }) }
	r := both(volt(3490000), current(10000))
	want := tells(watcher(t, late()), r)
	given := late()
	w := watcher(t, given)
	for _, l := range [][]api.Span{w.Box(), w.Copy().Box()} {
		spoil(l, span(1, 0))
	}
	now, _ := w.Now()
	spoil(now, span(1, 0))
	estimate.Check(given)
	if !sameCurves(given.Cell, model()) || !slices.Equal(given.Tol, make([]api.Span, 7)) || !slices.Equal(given.Box, late().Box) {
		t.Errorf("the watch is changed: %v", given)
	}
	spoilCell(given.Cell)
	spoil(given.Tol, span(1, 0))
	spoil(given.Box, span(1, 0))
	c := w.Copy()
	if got := tells(w, r); !same(got, want) {
		t.Errorf("%v, not %v", got, want)
	}
	if got := tells(c, r); !same(got, want) {
		t.Errorf("the copy: %v, not %v", got, want)
	}
	still, _ := watcher(t, watch()).Now() // without a delay the box of now is the box
	spoil(still, span(1, 0))
	x := watcher(t, watch())
	boxOfNow, _ := x.Now()
	spoil(boxOfNow, span(1, 0))
	if !slices.Equal(x.Box(), watch().Box) {
		t.Errorf("Now shares the box: %v", x.Box())
	}
}

// P3.8, R5: a filter shares no memory with its cell, and does not change it.
func TestFiltersShareNothing(t *testing.T) {
	c := model()
	f := filter(t, c, api.Gains{Charge: 65536}, half())
	g := f.Copy()
	if !sameCurves(c, model()) {
		t.Errorf("the cell is changed: %v", c)
	}
	spoilCell(c)
	for name, x := range map[string]*estimate.Filter{"the filter": f, "its copy": g} {
		if e := x.Take(both(volt(3490020), current(10000))); e != api.OK || x.State().Charge != 490010 {
			t.Errorf("%s: %d, %v", name, e, x.State())
		}
	}
}

// P3.2, P3.3, P3.10, R5: no list that is an argument is changed, and no two results share memory.
func TestListsShareNothing(t *testing.T) {
	spans, b, c := box(1, 5, 4, 9, 20, 30), box(1, 2, 0, 0, 5, 6, 0, 0, 0, 0), model()
	estimate.Fuse(spans, 1)
	estimate.Pull(b, half())
	estimate.Sense(four(), c, half(), api.Input{}, [4]int64{})
	liars, _ := estimate.Liars(spans, 6)
	apart, _ := estimate.Apart(b, half())
	liarsAgain, _ := estimate.Liars(spans, 6)
	apartAgain, _ := estimate.Apart(b, half())
	if !slices.Equal(spans, box(1, 5, 4, 9, 20, 30)) || !slices.Equal(b, box(1, 2, 0, 0, 5, 6, 0, 0, 0, 0)) || !sameCurves(c, model()) {
		t.Errorf("an argument is changed: %v, %v, %v", spans, b, c)
	}
	spoil(liars, 9)
	spoil(apart, 9)
	if !slices.Equal(liarsAgain, []int{0, 2}) || !slices.Equal(apartAgain, []int{0, 2}) {
		t.Errorf("results share memory: %v, %v", liarsAgain, apartAgain)
	}
}

// R3: nil and empty lists are the same.
func TestNilAndEmpty(t *testing.T) {
	for _, l := range [][]api.Span{nil, {}} {
		if got := of(estimate.Fuse(l, 0)); got != bad[api.Span](api.ErrArg) {
			t.Errorf("Fuse: %v", got)
		}
		if _, e := estimate.Liars(l, 0); e != api.ErrArg {
			t.Errorf("Liars: %d", e)
		}
		if _, e := estimate.Apart(l, half()); e != api.ErrArg {
			t.Errorf("Apart: %d", e)
		}
		if _, e := estimate.Pull(l, half()); e != api.ErrArg {
			t.Errorf("Pull: %d", e)
		}
		for _, change := range []func(w *api.Watch){func(w *api.Watch) { w.Tol = l }, func(w *api.Watch) { w.Box = l }} {
			if e := estimate.Check(watch(change)); e != api.ErrArg {
				t.Errorf("Check: %d", e)
			}
		}
	}
}

// wildArguments are arguments of all kinds, possible ones and others.
type wildArguments struct {
	sensor  api.Sensor
	x       int64
	spans   []api.Span
	c       api.Cell
	s       api.State
	w       api.Watch
	reading api.Reading
	l       api.Limits
}

// outcome is what one call has returned: its error, and whether everything else is zero.
type outcome struct {
	name  string
	errno api.Errno
	zero  bool
}

// callAll calls all functions that return an error.
func callAll(a wildArguments) []outcome {
	shown, e := estimate.Show(a.sensor, a.x, a.x)
	behind, e2 := estimate.Behind(a.sensor, a.x)
	fused, e3 := estimate.Fuse(a.spans, int(a.x))
	liars, e4 := estimate.Liars(a.spans, a.x)
	apart, e5 := estimate.Apart(a.spans, a.s)
	pulled, e6 := estimate.Pull(a.spans, a.s)
	sensed, e7 := estimate.Sense(a.w.Sensors, a.c, a.s, api.Input{Current: a.x, Ambient: a.x}, a.reading.Value)
	f, e8 := estimate.NewFilter(a.c, api.Gains{Charge: a.x, Temp: a.x}, a.s)
	w, e9 := estimate.NewWatcher(a.w)
	l := []outcome{
		{"CheckSensor", estimate.CheckSensor(a.sensor), true}, {"Show", e, shown == 0}, {"Behind", e2, behind == api.Span{}}, {"Fuse", e3, fused == api.Span{}}, {"Liars", e4, len(liars) == 0},
		{"Apart", e5, len(apart) == 0}, {"Pull", e6, pulled == api.State{}}, {"Sense", e7, sensed == api.Reading{}}, {"NewFilter", e8, f == nil}, {"NewWatcher", e9, w == nil},
		{"Check", estimate.Check(a.w), true}, {"Take of a filter", f.Take(a.reading), true}, {"Take of a watcher", w.Take(a.reading), true},
	}
	now, e := w.Now()
	fill, e2 := w.Fill()
	health, e3 := w.Health()
	power, e4 := w.Power(a.l)
	return append(l, outcome{"Now", e, len(now) == 0}, outcome{"Fill", e2, fill == api.Span{}}, outcome{"Health", e3, health == api.Span{}}, outcome{"Power", e4, power == 0})
}

// P1, R2, R6, R10: no arguments make a function panic; with an error all other results are zero; a call again has the same error.
func TestAnyArguments(t *testing.T) {
	r := chance(14)
	sensors := append(wildSensors(), plain(), exact(), plain(), exact())
	numbers := append(wildNumbers(), -1<<30, -1, 0, 1, 5, 40, 1<<30, 300000)
	spans := append(wildBoxes(), stateRanges(), box(1, 5, 4, 9, 20, 30), make([]api.Span, 16), make([]api.Span, 17), points(0, 0, 0, 0, 0))
	cells := append(wildCells(), model(), model(), model(), drawCell(r))
	states := append(wildStates(), half(), half(), half(), api.State{})
	watches := wildWatches()
	for range len(watches) {
		watches = append(watches, drawWatch(r), drawCalm(r), watch())
	}
	limits := []api.Limits{{}, {Out: -1}, {Least: math.MaxInt64}, {Most: 1 << 23, Out: 1 << 20, Hot: 400000}}
	for range 5000 {
		a := wildArguments{sensor: pick(r, sensors), x: pick(r, numbers), spans: pick(r, spans), c: pick(r, cells), s: pick(r, states), w: pick(r, watches), l: pick(r, limits)}
		for i := range a.reading.Has {
			a.reading.Has[i], a.reading.Value[i] = r.Intn(2) == 0, pick(r, numbers)
		}
		first, again := callAll(a), callAll(a)
		for i, x := range first {
			if x.errno != api.OK && !x.zero {
				t.Errorf("%s returns more than the error %d", x.name, x.errno)
			}
			if x != again[i] {
				t.Errorf("%s does not return the same again: %v, %v", x.name, x, again[i])
			}
		}
	}
}
