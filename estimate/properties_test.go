package estimate_test

import (
	"math/rand"
	"testing"

	"coulomb/api"
	"coulomb/cell"
	"coulomb/estimate"
	"coulomb/quantity"
)

// journey is a cell with offsets, its states and its inputs, tick by tick: there are Delay more of them than readings.
type journey struct {
	c      api.Cell
	states []api.State
	inputs []api.Input
}

// drawJourney draws a cell within the tolerances of a watch, and where it goes; it ends if a state would be beyond the limits.
func drawJourney(r *rand.Rand, w api.Watch, ticks int) (j journey, ok bool) {
	c, s, ok := drawMember(r, w)
	if !ok {
		return j, false
	}
	j = journey{c: c, states: []api.State{s}}
	for range ticks {
		in := api.Input{Current: drawIn(r, w.Currents), Ambient: drawIn(r, w.Ambients)}
		next, e := cell.Step(c, s, in)
		if e != api.OK {
			break
		}
		j.inputs, j.states, s = append(j.inputs, in), append(j.states, next), next
	}
	return j, true
}

// checkEncloses checks that a watcher encloses the state behind some readings, and that of now.
func checkEncloses(t *testing.T, r *rand.Rand, w api.Watch, x *estimate.Watcher, j journey, k int) {
	t.Helper()
	s := j.states[k]
	if !quantity.BoxHas(x.Box(), cell.Vector(s)) || x.Lost() || x.Taken() != k {
		t.Fatalf("%v, %v behind %d readings: %v does not contain %v", w, j.c, k, x.Box(), s)
	}
	fill, e := cell.Fill(j.c, s)
	if span, e2 := x.Fill(); e != api.OK || e2 != api.OK || !quantity.Has(span, fill) {
		t.Errorf("%v, %v behind %d readings: the fill %v does not contain %d", w, j.c, k, span, fill)
	}
	health, e := cell.Health(j.c, s)
	if span, e2 := x.Health(); e != api.OK || e2 != api.OK || !quantity.Has(span, health) {
		t.Errorf("%v, %v behind %d readings: the health %v does not contain %d", w, j.c, k, span, health)
	}
	now, e := x.Now()
	if e != api.OK || k+w.Delay >= len(j.states) {
		return
	}
	late := j.states[k+w.Delay]
	if !quantity.BoxHas(now, cell.Vector(late)) {
		t.Errorf("%v, %v behind %d readings: the box of now %v does not contain %v", w, j.c, k, now, late)
	}
	checkPower(t, r, w, x, j.c, late)
}

// checkPower checks that each current up to what a watcher tells is safe for a state: MostOut is at least this one, and below it all are.
func checkPower(t *testing.T, r *rand.Rand, w api.Watch, x *estimate.Watcher, c api.Cell, s api.State) {
	t.Helper()
	voltage, _ := cell.Voltage(c, s, 0)
	l := api.Limits{Least: min(max(voltage-drawFrom(r, -1, 1<<18), -1<<23), 1<<23), Most: 1 << 23, Out: drawFrom(r, 0, 1<<20), Hot: drawFrom(r, s.Temp, 400000)}
	power, e := x.Power(l)
	if e == api.ErrLimit {
		return
	}
	greatest, e2 := cell.MostOut(c, s, l, drawIn(r, w.Ambients))
	if e != api.OK || e2 != api.OK || power > greatest {
		t.Errorf("%v, %v in %v, within %v: the power is %d, %d, but no more than %d, %d is safe", w, c, s, l, power, e, greatest, e2)
	}
}

// P3.13, G1: nothing is lost, whatever the cell, the inputs, the noises and the readings that are missing.
func TestNothingIsLost(t *testing.T) {
	r := chance(11)
	journeys, readings := 0, 0
	for i := range 2000 {
		w := drawCalm(r)
		if i%3 == 0 {
			w = drawWatch(r)
		}
		j, ok := drawJourney(r, w, 8+w.Delay)
		if !ok {
			continue
		}
		journeys++
		x := watcher(t, w)
		checkEncloses(t, r, w, x, j, 0)
		for k := range min(8, len(j.inputs)) {
			if e := x.Take(drawReading(r, w, j.c, j.states[k], j.inputs[k])); e == api.ErrOver {
				break
			} else if e != api.OK {
				t.Fatalf("%v, %v in %v: Take: %d", w, j.c, j.states[k], e)
			}
			readings++
			checkEncloses(t, r, w, x, j, k+1)
		}
	}
	if journeys < 1000 || readings < 5000 {
		t.Errorf("only %d journeys and %d readings", journeys, readings)
	}
}

// P3.13, G1: the same for long; and sensors that are good make the box small.
func TestNothingIsLostForLong(t *testing.T) {
	r := chance(12)
	for range 30 {
		w := drawCalm(r)
		w.Currents = span(-2000, 2000)
		j, ok := drawJourney(r, w, 300+w.Delay)
		if !ok {
			continue
		}
		x := watcher(t, w)
		for k := range 300 {
			if e := x.Take(drawReading(r, w, j.c, j.states[k], j.inputs[k])); e != api.OK {
				t.Fatalf("%v, %v in %v: Take: %d", w, j.c, j.states[k], e)
			}
			checkEncloses(t, r, w, x, j, k+1)
		}
	}
	w := watch(func(w *api.Watch) {
		w.Sensors, w.Box[0] = [4]api.Sensor{exact(), exact(), exact(), exact()}, span(0, 1000000)
	})
	x, s := watcher(t, w), half()
	for k := range int64(50) {
		in := api.Input{Current: 100 * k, Ambient: 300000}
		reading, _ := estimate.Sense(w.Sensors, w.Cell, s, in, [4]int64{})
		if e := x.Take(reading); e != api.OK {
			t.Fatalf("Take: %d", e)
		}
		s, _ = cell.Step(w.Cell, s, in)
	}
	if b := x.Box(); !quantity.BoxHas(b, cell.Vector(s)) || b[0].Hi-b[0].Lo > 15 || b[1] != span(s.Relax, s.Relax) {
		t.Errorf("%v around %v", b, s)
	}
}

// P3.14: a reading makes nothing greater than a step without it, and a sensor that shows nothing makes nothing smaller.
func TestSmallerWithReadings(t *testing.T) {
	r := chance(13)
	smaller := 0
	for i := range 2000 {
		w := drawCalm(r)
		if i%3 == 0 {
			w = drawWatch(r)
		}
		j, ok := drawJourney(r, w, 4)
		if !ok {
			continue
		}
		x := watcher(t, w)
		for k := range len(j.inputs) {
			before, reading := x.Copy(), drawReading(r, w, j.c, j.states[k], j.inputs[k])
			stepped, e := cell.StepBox(w.Cell, w.Tol, x.Box(), []api.Span{w.Currents, w.Ambients})
			if x.Take(reading) != api.OK {
				break
			}
			if e == api.OK && !quantity.BoxInside(x.Box(), stepped) {
				t.Errorf("%v takes %v from %v: %v is not inside of %v", w, reading, before.Box(), x.Box(), stepped)
			}
			for i := range 4 {
				less, blind := reading, before.Copy()
				less.Has[i] = false
				if blind.Take(less) == api.OK && !quantity.BoxInside(x.Box(), blind.Box()) {
					t.Errorf("%v takes %v from %v: %v is not inside of %v, without the sensor %d", w, reading, before.Box(), x.Box(), blind.Box(), i)
				}
				if !quantity.BoxInside(blind.Box(), x.Box()) {
					smaller++
				}
			}
		}
	}
	if smaller < 1000 {
		t.Errorf("only %d readings tell something", smaller)
	}
}
