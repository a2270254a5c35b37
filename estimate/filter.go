package estimate

import (
	"coulomb/api"
	"coulomb/cell"
)

// Filter estimates a state.
type Filter struct {
	self  *Filter // one that was not made here does not point to itself, and is not valid
	cell  api.Cell
	gains api.Gains
	estimated
}

// estimated is what changes with the readings: the state, and the input that is taken to last until another one is shown.
type estimated struct {
	state api.State
	input api.Input
}

// NewFilter returns a filter. (P3.8)
func NewFilter(c api.Cell, g api.Gains, s api.State) (*Filter, api.Errno) {
	if e := cell.Check(c); e != api.OK {
		return nil, e
	}
	if !isFrom(g.Charge, 0, api.MaxQuantity) || !isFrom(g.Relax, 0, api.MaxQuantity) || !isFrom(g.Temp, 0, api.MaxQuantity) {
		return nil, api.ErrArg
	}
	if e := cell.CheckState(c, s); e != api.OK {
		return nil, e
	}
	return newFilter(c, g, estimated{state: s, input: api.Input{Ambient: s.Temp}}), api.OK
}

// Take takes a reading. (P3.9)
func (f *Filter) Take(r api.Reading) api.Errno {
	if !f.valid() {
		return api.ErrNil
	}
	if !isReadable(r) {
		return api.ErrRange
	}
	input := f.shownInput(r)
	next, e := cell.Step(f.cell, f.corrected(r, input.Current), input)
	if e != api.OK {
		return e
	}
	f.state, f.input = next, input
	return api.OK
}

// State returns the state of a filter. (P3.8)
func (f *Filter) State() api.State {
	if !f.valid() {
		return api.State{}
	}
	return f.state
}

// Copy returns an independent copy. (P3.8)
func (f *Filter) Copy() *Filter {
	if !f.valid() {
		return nil
	}
	return newFilter(f.cell, f.gains, f.estimated)
}

// newFilter returns a filter that shares no memory with a cell.
func newFilter(c api.Cell, g api.Gains, now estimated) *Filter {
	f := &Filter{cell: clonedCell(c), gains: g, estimated: now}
	f.self = f
	return f
}

// valid reports whether a filter was made by a function of this package.
func (f *Filter) valid() bool { return f != nil && f.self == f }

// shownInput returns the input with what a reading shows of it.
func (f *Filter) shownInput(r api.Reading) api.Input {
	in := f.input
	if r.Has[api.Current] {
		in.Current = bring(r.Value[api.Current], currentRange().Lo, currentRange().Hi)
	}
	if r.Has[api.Ambient] {
		in.Ambient = bring(r.Value[api.Ambient], ambientRange().Lo, ambientRange().Hi)
	}
	return in
}

// corrected returns the state, corrected by what a reading shows of it, with a current.
func (f *Filter) corrected(r api.Reading, current int64) api.State {
	s := f.state
	volt, _ := cell.Voltage(f.cell, s, current)
	capacity, _ := cell.Capacity(f.cell, s)
	if r.Has[api.Volt] {
		difference := r.Value[api.Volt] - volt
		s.Charge = bring(s.Charge+gained(difference, f.gains.Charge), 0, capacity)
		s.Relax = bring(s.Relax-gained(difference, f.gains.Relax), -api.MaxVolt, api.MaxVolt)
	}
	if r.Has[api.Temp] {
		s.Temp = bring(s.Temp+gained(r.Value[api.Temp]-s.Temp, f.gains.Temp), 0, api.MaxTemp)
	}
	return s
}

// isReadable reports whether all that a reading shows is from -MaxRead to MaxRead.
func isReadable(r api.Reading) bool {
	for i := range len(r.Has) {
		if r.Has[i] && !isFrom(r.Value[i], -api.MaxRead, api.MaxRead) {
			return false
		}
	}
	return true
}

// gained returns difference gain / Whole, rounded down. The whole and the rest of the gain are multiplied one by one, as a single product may not fit a word.
func gained(difference, gain int64) int64 {
	return difference*(gain/api.Whole) + down(difference*(gain%api.Whole), api.Whole)
}
