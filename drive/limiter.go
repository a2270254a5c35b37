package drive

import (
	"coulomb/api"
	"coulomb/quantity"
)

// roomShare is the part of a bus voltage that is room, as a binary fraction: about 1 / sqrt 6, so that the vector of two voltages within the room is at most about 1 / sqrt 3 of the bus voltage long, which the phases can give.
const roomShare = 26755

// loose is a motor with tolerances that are possible for it: what its values can really be, and the error of its speed.
type loose struct {
	api.Motor
	r, ld, lq, flux, wrong api.Span
}

// Room returns the room of a bus voltage. (P6.7)
func Room(bus int64) (int64, api.Errno) {
	if e := busError(bus); e != api.OK {
		return 0, e
	}
	return down(bus*roomShare, fraction), api.OK
}

// Allowed returns the allowed voltages. (P6.7)
func Allowed(m api.Motor, tol []api.Span, d, q, speed int64) (api.Span, api.Span, api.Errno) {
	l, e := loosen(m, tol)
	if e != api.OK {
		return api.Span{}, api.Span{}, e
	}
	if !areUpTo(m.Current, d, q) || !areUpTo(m.Fast, speed) {
		return api.Span{}, api.Span{}, api.ErrRange
	}
	forD, forQ := l.allowed(d, q, speed)
	if isEmpty(forD) || isEmpty(forQ) {
		return api.Span{}, api.Span{}, api.ErrLimit
	}
	return forD, forQ, api.OK
}

// Holds reports whether a motor holds. (P6.8)
func Holds(m api.Motor, tol []api.Span, bus int64) (bool, api.Errno) {
	l, e := loosen(m, tol)
	if e != api.OK {
		return false, e
	}
	room, e := Room(bus)
	if e != api.OK {
		return false, e
	}
	return l.fits(room) && l.isSlow(l.ld, l.lq, 0) && l.isSlow(l.lq, l.ld, l.fluxSpread()), api.OK
}

// loosen returns a motor with its tolerances, or the error of the motor, or that of the tolerances.
func loosen(m api.Motor, tol []api.Span) (loose, api.Errno) {
	if e := Check(m); e != api.OK {
		return loose{}, e
	}
	if len(tol) != 5 || quantity.CheckBox(tol) != api.OK {
		return loose{}, api.ErrArg
	}
	least := shifted(m, [4]int64{tol[0].Lo, tol[1].Lo, tol[2].Lo, tol[3].Lo})
	most := shifted(m, [4]int64{tol[0].Hi, tol[1].Hi, tol[2].Hi, tol[3].Hi})
	wrong := tol[4]
	if Check(least) != api.OK || Check(most) != api.OK || !areUpTo(api.MaxSpeed, wrong.Lo, wrong.Hi) {
		return loose{}, api.ErrRange
	}
	return loose{
		Motor: m,
		r:     api.Span{Lo: least.R, Hi: most.R},
		ld:    api.Span{Lo: least.Ld, Hi: most.Ld},
		lq:    api.Span{Lo: least.Lq, Hi: most.Lq},
		flux:  api.Span{Lo: least.Flux, Hi: most.Flux},
		wrong: wrong,
	}, api.OK
}

// allowed returns the allowed voltages, of which there may be none.
func (l loose) allowed(d, q, speed int64) (forD, forQ api.Span) {
	bd, bq := l.inner(d, q, speed)
	return l.keeping(d, l.ld.Lo, bd), l.keeping(q, l.lq.Lo, bq)
}

// keeping returns the voltages that keep a current within its limit, for an inductance, which is the least possible one, as that lets a current change most, and inner voltages.
func (l loose) keeping(current, induct int64, b api.Span) api.Span {
	return api.Span{
		Lo: -down((l.Current+current)*induct, l.Micro) - b.Lo,
		Hi: down((l.Current-current+1)*induct-1, l.Micro) - b.Hi,
	}
}

// inner returns the spans of the inner voltages at a measured speed.
func (l loose) inner(d, q, speed int64) (bd, bq api.Span) {
	w := api.Span{Lo: speed + l.wrong.Lo, Hi: speed + l.wrong.Hi}
	lostD, lostQ := over(product(l.r, single(d)), milli), over(product(l.r, single(q)), milli)
	turnedD, turnedQ := over(product(w, l.ld, single(d)), micro), over(product(w, l.lq, single(q)), micro)
	field := product(w, l.flux)
	bd = api.Span{Lo: -lostD.Hi + turnedQ.Lo, Hi: -lostD.Lo + turnedQ.Hi}
	bq = api.Span{Lo: -lostQ.Hi - turnedD.Hi - field.Hi, Hi: -lostQ.Lo - turnedD.Lo - field.Lo}
	return bd, bq
}

// fits reports whether the room is enough for the inner voltages at all currents within the limit, and all speeds.
func (l loose) fits(room int64) bool {
	lost, w := up(l.r.Hi*l.Current, milli), l.fastest()
	needD := lost + up(w*l.lq.Hi*l.Current, micro) + 2
	needQ := lost + up(w*l.ld.Hi*l.Current, micro) + w*l.flux.Hi + 2
	return room >= needD && room >= needQ
}

// isSlow reports whether the current in one direction changes so little in a step that the inner voltages in this direction may differ as they do; more is what the flux adds to that.
func (l loose) isSlow(own, other api.Span, more int64) bool {
	turned := l.spread()*other.Hi + l.fastest()*(other.Hi-other.Lo)
	s := up((l.r.Hi-l.r.Lo)*l.Current, milli) + up(turned*l.Current, micro) + more + 4
	return 2*l.Current*own.Lo >= (s+2)*l.Micro
}

// fluxSpread returns how much the voltage of the flux can differ.
func (l loose) fluxSpread() int64 {
	return l.spread()*l.flux.Hi + l.fastest()*(l.flux.Hi-l.flux.Lo)
}

// fastest returns the greatest amount that a real speed can have.
func (l loose) fastest() int64 { return l.Fast + max(-l.wrong.Lo, l.wrong.Hi) }

// spread returns how much the error of the speed can differ.
func (l loose) spread() int64 { return l.wrong.Hi - l.wrong.Lo }

// product returns the span of the products of ends, one of each span.
func product(spans ...api.Span) api.Span {
	p := api.Span{Lo: 1, Hi: 1}
	for _, s := range spans {
		a, b, c, d := p.Lo*s.Lo, p.Lo*s.Hi, p.Hi*s.Lo, p.Hi*s.Hi
		p = api.Span{Lo: min(a, b, c, d), Hi: max(a, b, c, d)}
	}
	return p
}

// over returns the quotients of both ends, rounded down.
func over(s api.Span, den int64) api.Span {
	return api.Span{Lo: down(s.Lo, den), Hi: down(s.Hi, den)}
}

// single returns the span of one number.
func single(x int64) api.Span { return api.Span{Lo: x, Hi: x} }

// isEmpty reports whether no number is in a span.
func isEmpty(s api.Span) bool { return s.Lo > s.Hi }
