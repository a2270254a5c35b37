package drive

import (
	"coulomb/api"
	"coulomb/quantity"
)

const (
	// anglePart by angleWhole is how many parts of a turn a motor turns in a microsecond at 1 mrad/s.
	anglePart  = 10430378
	angleWhole = 1000000000000

	// spinTorque is the torque with which a step adds Spin to the speed.
	spinTorque = 1 << 20
)

// Check reports whether a motor is valid. (P6.4)
func Check(m api.Motor) api.Errno {
	if !isFrom(m.R, 0, api.MaxResist) || !isFrom(m.Ld, 1, api.MaxInduct) || !isFrom(m.Lq, 1, api.MaxInduct) || !isFrom(m.Flux, 0, api.MaxFlux) {
		return api.ErrArg
	}
	if !isFrom(m.Poles, 1, api.MaxPoles) || !isFrom(m.Micro, 1, api.MaxMicro) || !isFrom(m.Spin, 0, api.MaxInertia) || !isFrom(m.Drag, 0, api.MaxInertia) {
		return api.ErrArg
	}
	if !isFrom(m.Current, 1, api.MaxCurrent) || !isFrom(m.Fast, 0, api.MaxSpeed) {
		return api.ErrArg
	}
	return api.OK
}

// Torque returns the torque for two currents. (P6.4)
func Torque(m api.Motor, d, q int64) (int64, api.Errno) {
	if e := Check(m); e != api.OK {
		return 0, e
	}
	if !areUpTo(api.MaxCurrent, d, q) {
		return 0, api.ErrRange
	}
	return torque(m, d, q)
}

// Inner returns the inner voltages. (P6.4)
func Inner(m api.Motor, d, q, speed int64) (int64, int64, api.Errno) {
	if e := Check(m); e != api.OK {
		return 0, 0, e
	}
	if !areUpTo(api.MaxCurrent, d, q) || !areUpTo(api.MaxSpeed, speed) {
		return 0, 0, api.ErrRange
	}
	bd, bq := inner(m, d, q, speed)
	return bd, bq, api.OK
}

// Step returns the next state of a motor. (P6.5)
func Step(m api.Motor, s api.Rotor, vd, vq, load int64) (api.Rotor, api.Errno) {
	if e := Check(m); e != api.OK {
		return api.Rotor{}, e
	}
	if !isState(s) || !areUpTo(api.MaxBus, vd, vq) || !areUpTo(api.MaxTorque, load) {
		return api.Rotor{}, api.ErrRange
	}
	gained, e := torque(m, s.D, s.Q)
	if e != api.OK {
		return api.Rotor{}, e
	}
	w := speedOf(s)
	bd, bq := inner(m, s.D, s.Q, w)
	angle := s.Angle + down(s.Speed*m.Micro*anglePart, angleWhole)
	next := api.Rotor{
		D:     s.D + down((vd+bd)*m.Micro, m.Ld),
		Q:     s.Q + down((vq+bq)*m.Micro, m.Lq),
		Speed: s.Speed + down((gained-load-m.Drag*w)*m.Spin, spinTorque),
		Angle: angle - down(angle, api.Turn)*api.Turn,
	}
	if !isState(next) {
		return api.Rotor{}, api.ErrOver
	}
	return next, api.OK
}

// Apply returns a motor with offsets. (P6.6)
func Apply(m api.Motor, offsets []int64) (api.Motor, api.Errno) {
	if e := Check(m); e != api.OK {
		return api.Motor{}, e
	}
	if len(offsets) != 4 {
		return api.Motor{}, api.ErrArg
	}
	for _, x := range offsets {
		if _, e := quantity.Point(x); e != api.OK {
			return api.Motor{}, api.ErrArg
		}
	}
	changed := shifted(m, [4]int64(offsets))
	if Check(changed) != api.OK {
		return api.Motor{}, api.ErrRange
	}
	return changed, api.OK
}

// shifted returns a motor with offsets, valid or not.
func shifted(m api.Motor, offsets [4]int64) api.Motor {
	m.R += offsets[0]
	m.Ld += offsets[1]
	m.Lq += offsets[2]
	m.Flux += offsets[3]
	return m
}

// torque returns the torque of a valid motor for possible currents, or ErrOver.
func torque(m api.Motor, d, q int64) (int64, api.Errno) {
	x := m.Flux*q + down((m.Ld-m.Lq)*d*q, micro)
	t := down(3*m.Poles*x, 2*milli)
	if !areUpTo(api.MaxTorque, t) {
		return 0, api.ErrOver
	}
	return t, api.OK
}

// inner returns the inner voltages of a valid motor.
func inner(m api.Motor, d, q, w int64) (bd, bq int64) {
	bd = -down(m.R*d, milli) + down(w*m.Lq*q, micro)
	bq = -down(m.R*q, milli) - down(w*m.Ld*d, micro) - w*m.Flux
	return bd, bq
}

// isState reports whether a state is valid.
func isState(s api.Rotor) bool {
	return areUpTo(api.MaxCurrent, s.D, s.Q) && areUpTo(milli*api.MaxSpeed, s.Speed) && isAngle(s.Angle)
}

// speedOf returns the speed of a state, in electrical radians a second.
func speedOf(s api.Rotor) int64 { return down(s.Speed, milli) }
