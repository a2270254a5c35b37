package drive

import (
	"coulomb/api"
	"coulomb/quantity"
)

// far is beyond every current and every voltage.
const far = 1 << 60

// field is a motor at a speed, with a room for the voltages, and a greatest current.
type field struct {
	api.Motor
	speed, room, most int64
}

// Weaken returns the weakening for a current. (P6.11)
func Weaken(m api.Motor, q, speed, bus, most int64) (int64, api.Errno) {
	if e := Check(m); e != api.OK {
		return 0, e
	}
	if !areUpTo(api.MaxCurrent, q) {
		return 0, api.ErrRange
	}
	f, e := newField(m, speed, bus, most)
	if e != api.OK {
		return 0, e
	}
	d, has := f.weakening(single(q))
	if !has {
		return 0, api.ErrLimit
	}
	return d, api.OK
}

// Strongest returns the greatest current at a speed, and its weakening. (P6.11)
func Strongest(m api.Motor, speed, bus, most int64) (int64, int64, api.Errno) {
	if e := Check(m); e != api.OK {
		return 0, 0, e
	}
	f, e := newField(m, speed, bus, most)
	if e != api.OK {
		return 0, 0, e
	}
	q, d, has := f.strongest(api.Span{Lo: 0, Hi: most})
	if !has {
		return 0, 0, api.ErrLimit
	}
	return q, d, api.OK
}

// newField returns the field of a valid motor, or the first error of the numbers.
func newField(m api.Motor, speed, bus, most int64) (field, api.Errno) {
	if !areUpTo(api.MaxSpeed, speed) {
		return field{}, api.ErrRange
	}
	room, e := Room(bus)
	if e != api.OK {
		return field{}, e
	}
	if !isFrom(most, 0, api.MaxCurrent) {
		return field{}, api.ErrRange
	}
	return field{m, speed, room, most}, api.OK
}

// weakening returns the weakening for a current q, if it has one. For several currents q, it returns a number that is not less than any of their weakenings, and if it returns none, none of them has one.
func (f field) weakening(q api.Span) (d int64, has bool) {
	lost, turned := over(product(q, single(f.R)), milli), over(product(q, single(f.speed*f.Lq)), micro)
	still := f.speed * f.Flux
	a := between(f.R, milli, api.Span{Lo: turned.Lo - f.room, Hi: turned.Hi + f.room})
	b := between(f.speed*f.Ld, micro, api.Span{Lo: -f.room - lost.Hi - still, Hi: f.room - lost.Lo - still})
	least, greatest := max(-f.most, a.Lo, b.Lo), min(0, a.Hi, b.Hi)
	return greatest, least <= greatest
}

// strongest returns the greatest current of a span that is possible, and its weakening. It halves the span, and leaves out what cannot contain a possible current.
func (f field) strongest(s api.Span) (q, d int64, has bool) {
	d, has = f.weakening(s)
	if !has || d*d+s.Lo*s.Lo > f.most*f.most {
		return 0, 0, false
	}
	if s.Lo == s.Hi {
		return s.Lo, d, true
	}
	middle, _ := quantity.Middle(s)
	if q, d, has = f.strongest(api.Span{Lo: middle + 1, Hi: s.Hi}); has {
		return q, d, true
	}
	return f.strongest(api.Span{Lo: s.Lo, Hi: middle})
}

// between returns all x for which k x / den, rounded down, is in a span.
func between(k, den int64, s api.Span) api.Span {
	switch {
	case k < 0:
		mirrored := between(-k, den, s)
		return api.Span{Lo: -mirrored.Hi, Hi: -mirrored.Lo}
	case k > 0:
		return api.Span{Lo: up(s.Lo*den, k), Hi: down((s.Hi+1)*den-1, k)}
	case isFrom(0, s.Lo, s.Hi):
		return api.Span{Lo: -far, Hi: far}
	}
	return api.Span{Lo: far, Hi: -far}
}
