package estimate

import (
	"slices"

	"coulomb/api"
	"coulomb/cell"
	"coulomb/quantity"
)

// Watcher computes boxes that contain every state that is possible.
type Watcher struct {
	self  *Watcher  // one that was not made here does not point to itself, and is not valid
	watch api.Watch // its Box is the one behind the readings that were taken
	taken int
	lost  bool
}

// Check reports whether a watch is valid. (P3.4)
func Check(w api.Watch) api.Errno {
	_, e := cell.VoltageBox(w.Cell, w.Tol, w.Box, w.Currents) // it checks all of these
	if e != api.OK || !areSensors(w.Sensors) || w.Delay < 0 || w.Delay > api.MaxDelay || !quantity.Inside(w.Ambients, ambientRange()) {
		return api.ErrArg
	}
	return api.OK
}

// NewWatcher returns a watcher. (P3.4)
func NewWatcher(w api.Watch) (*Watcher, api.Errno) {
	if e := Check(w); e != api.OK {
		return nil, e
	}
	return newWatcher(w, 0, false), api.OK
}

// Take takes a reading. (P3.5)
func (w *Watcher) Take(r api.Reading) api.Errno {
	if !w.valid() {
		return api.ErrNil
	}
	if w.lost {
		return api.ErrLost
	}
	behind, e := w.behind(r)
	if e != api.OK {
		return e
	}
	t := taking{Watch: cloned(w.watch), behind: behind}
	if !t.cut() {
		w.lost = true
		return api.ErrLost
	}
	next, e := t.step()
	if e != api.OK {
		return e
	}
	w.watch.Box = next
	w.taken++
	return api.OK
}

// Box returns the box of the states that are possible. (P3.6)
func (w *Watcher) Box() []api.Span {
	if !w.valid() {
		return nil
	}
	return slices.Clone(w.watch.Box)
}

// Now returns the box of now. (P3.6)
func (w *Watcher) Now() ([]api.Span, api.Errno) {
	if !w.valid() {
		return nil, api.ErrNil
	}
	box := slices.Clone(w.watch.Box)
	for range w.watch.Delay {
		next, e := cell.StepBox(w.watch.Cell, w.watch.Tol, box, []api.Span{w.watch.Currents, w.watch.Ambients})
		if e != api.OK {
			return nil, e
		}
		box = next
	}
	return box, api.OK
}

// Fill returns the span of the fill. (P3.7)
func (w *Watcher) Fill() (api.Span, api.Errno) {
	if !w.valid() {
		return api.Span{}, api.ErrNil
	}
	return cell.FillBox(w.watch.Cell, w.watch.Tol, w.watch.Box)
}

// Health returns the span of the health. (P3.7)
func (w *Watcher) Health() (api.Span, api.Errno) {
	if !w.valid() {
		return api.Span{}, api.ErrNil
	}
	least, most := make([]int64, len(w.watch.Tol)), make([]int64, len(w.watch.Tol))
	for i, t := range w.watch.Tol {
		least[i], most[i] = t.Lo, t.Hi
	}
	flow, years := w.watch.Box[through], w.watch.Box[age]
	return api.Span{
		Lo: w.health(least, api.State{Through: flow.Hi, Age: years.Hi}),
		Hi: w.health(most, api.State{Through: flow.Lo, Age: years.Lo}),
	}, api.OK
}

// Power returns a current that is safe now. (P3.7)
func (w *Watcher) Power(l api.Limits) (int64, api.Errno) {
	box, e := w.Now()
	if e != api.OK {
		return 0, e
	}
	return cell.SafeOut(w.watch.Cell, w.watch.Tol, box, l, w.watch.Ambients)
}

// Taken returns how many readings were taken. (P3.6)
func (w *Watcher) Taken() int {
	if !w.valid() {
		return 0
	}
	return w.taken
}

// Lost reports whether the watcher is lost. (P3.6)
func (w *Watcher) Lost() bool { return w.valid() && w.lost }

// Copy returns an independent copy. (P3.4)
func (w *Watcher) Copy() *Watcher {
	if !w.valid() {
		return nil
	}
	return newWatcher(w.watch, w.taken, w.lost)
}

// newWatcher returns a watcher that shares no memory with a watch.
func newWatcher(watch api.Watch, taken int, lost bool) *Watcher {
	w := &Watcher{watch: cloned(watch), taken: taken, lost: lost}
	w.self = w
	return w
}

// valid reports whether a watcher was made by a function of this package.
func (w *Watcher) valid() bool { return w != nil && w.self == w }

// behind returns what is behind each value of a reading.
func (w *Watcher) behind(r api.Reading) ([4]api.Span, api.Errno) {
	var spans [4]api.Span
	for i := range len(spans) {
		spans[i] = anything()
		if !r.Has[i] {
			continue
		}
		s, e := Behind(w.watch.Sensors[i], r.Value[i])
		if e != api.OK {
			return [4]api.Span{}, api.ErrArg
		}
		spans[i] = s
	}
	return spans, api.OK
}

// health returns the health of the cell with possible offsets, in a state without charge, which is valid for each cell.
func (w *Watcher) health(offsets []int64, s api.State) int64 {
	c, _ := cell.Apply(w.watch.Cell, offsets)
	left, _ := cell.Health(c, s)
	return left
}

// cloned returns a watch that shares no memory with w.
func cloned(w api.Watch) api.Watch {
	w.Cell, w.Tol, w.Box = clonedCell(w.Cell), slices.Clone(w.Tol), slices.Clone(w.Box)
	return w
}

// clonedCell returns a cell that shares no memory with c.
func clonedCell(c api.Cell) api.Cell {
	c.Ocv, c.Cold, c.Stress = clonedCurve(c.Ocv), clonedCurve(c.Cold), clonedCurve(c.Stress)
	return c
}

// clonedCurve returns a curve that shares no memory with c.
func clonedCurve(c api.Curve) api.Curve {
	return api.Curve{X: slices.Clone(c.X), Y: slices.Clone(c.Y)}
}
