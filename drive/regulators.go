package drive

import (
	"coulomb/api"
	"coulomb/quantity"
)

// maxGain is the greatest gain.
const maxGain = 1 << 24

// regulator has gains and a sum.
type regulator struct {
	api.Tuning
	sum int64
}

// play is a real motor, what is known of it, and the steps of its regulators.
type play struct {
	loose
	real         api.Motor
	room         int64
	stepD, stepQ func(wrong int64, s api.Span) int64
}

// Regulate returns the voltage of a regulator, and its new sum. (P6.9)
func Regulate(g api.Tuning, sum, wrong int64, s api.Span) (int64, int64, api.Errno) {
	if !isTuning(g) || quantity.Check(s) != api.OK {
		return 0, 0, api.ErrArg
	}
	if !areUpTo(api.MaxBus, sum) || !areUpTo(2*api.MaxCurrent, wrong) {
		return 0, 0, api.ErrRange
	}
	r := regulator{g, sum}
	voltage := r.step(wrong, s)
	return voltage, r.sum, api.OK
}

// Play returns the states of a real motor that is regulated. (P6.10)
func Play(m api.Motor, offsets []int64, tol []api.Span, g [2]api.Tuning, bus int64, s api.Rotor, l []api.Order, errs []int64) ([]api.Rotor, api.Errno) {
	p, e := newPlay(m, offsets, tol, g, bus)
	if e != api.OK {
		return nil, e
	}
	if e := p.check(s, l, errs); e != api.OK {
		return nil, e
	}
	states := make([]api.Rotor, len(l))
	for i, o := range l {
		if s, e = p.step(s, o, errs[i]); e != api.OK {
			return nil, e
		}
		states[i] = s
	}
	return states, api.OK
}

// newPlay returns a play before its first step.
func newPlay(m api.Motor, offsets []int64, tol []api.Span, g [2]api.Tuning, bus int64) (play, api.Errno) {
	l, e := loosen(m, tol)
	if e != api.OK {
		return play{}, e
	}
	changed, e := Apply(m, offsets)
	if e != api.OK {
		return play{}, e
	}
	if !quantity.BoxHas(tol[:4], offsets) {
		return play{}, api.ErrRange
	}
	if !isTuning(g[0]) || !isTuning(g[1]) {
		return play{}, api.ErrArg
	}
	room, e := Room(bus)
	if e != api.OK {
		return play{}, e
	}
	forD, forQ := &regulator{Tuning: g[0]}, &regulator{Tuning: g[1]}
	return play{l, changed, room, forD.step, forQ.step}, api.OK
}

// check returns the error of a state, orders, and errors of the speed.
func (p play) check(s api.Rotor, l []api.Order, errs []int64) api.Errno {
	if len(l) > api.MaxSteps {
		return api.ErrMany
	}
	if len(errs) != len(l) {
		return api.ErrEqual
	}
	for i, o := range l {
		if !quantity.Has(p.wrong, errs[i]) || !areUpTo(api.MaxCurrent, o.D, o.Q) || !areUpTo(api.MaxTorque, o.Load) {
			return api.ErrRange
		}
	}
	if !isState(s) || !areUpTo(p.Current, s.D, s.Q) {
		return api.ErrRange
	}
	return api.OK
}

// step returns the state behind a step.
func (p play) step(s api.Rotor, o api.Order, wrong int64) (api.Rotor, api.Errno) {
	measured := speedOf(s) - wrong
	if !areUpTo(p.Fast, measured) {
		return api.Rotor{}, api.ErrLimit
	}
	forD, forQ := p.allowed(s.D, s.Q, measured)
	forD, forQ = cut(forD, p.room), cut(forQ, p.room)
	if isEmpty(forD) || isEmpty(forQ) {
		return api.Rotor{}, api.ErrLimit
	}
	return Step(p.real, s, p.stepD(o.D-s.D, forD), p.stepQ(o.Q-s.Q, forQ), o.Load)
}

// step returns the voltage for an error, and lets the sum grow.
func (r *regulator) step(wrong int64, s api.Span) int64 {
	raw := down(r.P*wrong, fraction) + r.sum
	voltage := bring(raw, s.Lo, s.Hi)
	// a sum that grew while the voltage cannot follow would have to shrink again before the voltage could turn
	if raw == voltage || raw > voltage && wrong < 0 || raw < voltage && wrong > 0 {
		r.sum = bring(r.sum+down(r.I*wrong, fraction), -api.MaxBus, api.MaxBus)
	}
	return voltage
}

// isTuning reports whether both gains are possible.
func isTuning(g api.Tuning) bool { return isFrom(g.P, 0, maxGain) && isFrom(g.I, 0, maxGain) }

// cut returns the numbers of a span whose amount is at most a greatest one. Meet of quantity does not take a span with ends that are no quantities, which the allowed voltages may have.
func cut(s api.Span, most int64) api.Span {
	return api.Span{Lo: max(s.Lo, -most), Hi: min(s.Hi, most)}
}
