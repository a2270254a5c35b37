package drive_test

import (
	"math/big"
	"slices"

	"coulomb/api"
)

// quo is a product over den, rounded down; den is above 0. (Of big numbers, Div rounds down then.)
func quo(den int64, factors ...int64) int64 {
	p := big.NewInt(1)
	for _, x := range factors {
		p.Mul(p, big.NewInt(x))
	}
	return p.Div(p, big.NewInt(den)).Int64()
}

// upQuo is a product over den, rounded up.
func upQuo(den int64, factors ...int64) int64 { return -quo(den, append(factors, -1)...) }

// within reports whether the amounts of numbers are at most a limit.
func within(limit int64, l ...int64) bool { return slices.Min(l) >= -limit && slices.Max(l) <= limit }

// isAngle reports whether x is an angle.
func isAngle(x int64) bool { return x >= 0 && x <= 65535 }

// sineOf is the sine of an angle.
func sineOf(a int64) int64 {
	if a >= 32768 {
		return -sineOf(a - 32768)
	}
	p := a * (32768 - a)
	return quo(5*32768*32768-4*p, 16384, 16, p)
}

// cosineOf is the cosine of an angle.
func cosineOf(a int64) int64 { return sineOf((a + 16384) % 65536) }

func wantTwo(a, b, c int64) numbers {
	if !within(mostBus, a, b, c) {
		return bad(api.ErrRange)
	}
	if a+b != -c {
		return bad(api.ErrEqual)
	}
	return good(a, quo(65536, a+2*b, 37837))
}

func wantTurnTo(alpha, beta, angle int64) numbers {
	if !within(mostBus, alpha, beta) || !isAngle(angle) {
		return bad(api.ErrRange)
	}
	return good(quo(16384, alpha*cosineOf(angle)+beta*sineOf(angle)), quo(16384, beta*cosineOf(angle)-alpha*sineOf(angle)))
}

func wantTurnBack(d, q, angle int64) numbers {
	if !within(mostBus, d, q) || !isAngle(angle) {
		return bad(api.ErrRange)
	}
	return good(quo(16384, d*cosineOf(angle)-q*sineOf(angle)), quo(16384, d*sineOf(angle)+q*cosineOf(angle)))
}

func wantPhases(alpha, beta int64) threeOf {
	if !within(mostBus, alpha, beta) {
		return threeOf{e: api.ErrRange}
	}
	w := quo(65536, beta, 113512)
	return threeOf{l: [3]int64{alpha, quo(2, w-alpha), quo(2, -w-alpha)}}
}

func wantDuties(l [3]int64, bus int64) threeOf {
	if !within(mostBus, l[:]...) || bus < 1 || bus > mostBus {
		return threeOf{e: api.ErrRange}
	}
	var w threeOf
	if d := slices.Max(l[:]) - slices.Min(l[:]); d > bus {
		w.isCut = true
		l = [3]int64{quo(d, l[0], bus), quo(d, l[1], bus), quo(d, l[2], bus)}
	}
	for i, x := range l {
		w.l[i] = min(max(quo(2*bus, 2*x-slices.Max(l[:])-slices.Min(l[:])+bus, 65536), 0), 65536)
	}
	return w
}

// isMotor reports whether a motor is valid.
func isMotor(m api.Motor) bool {
	for _, b := range boundsOf(&m) {
		if *b.field < b.lo || *b.field > b.hi {
			return false
		}
	}
	return true
}

// isState reports whether a state is valid.
func isState(s api.Rotor) bool {
	return within(mostAmp, s.D, s.Q) && within(1000*mostSpeed, s.Speed) && isAngle(s.Angle)
}

// torqueOf is the torque of a valid motor, whatever it is.
func torqueOf(m api.Motor, d, q int64) int64 {
	return quo(2000, 3, m.Poles, m.Flux*q+quo(1000000, m.Ld-m.Lq, d, q))
}

func wantTorque(m api.Motor, d, q int64) numbers {
	switch {
	case !isMotor(m):
		return bad(api.ErrArg)
	case !within(mostAmp, d, q):
		return bad(api.ErrRange)
	case !within(mostTorque, torqueOf(m, d, q)):
		return bad(api.ErrOver)
	}
	return good(torqueOf(m, d, q), 0)
}

// innerOf are the inner voltages.
func innerOf(m api.Motor, d, q, w int64) (bd, bq int64) {
	bd = quo(1000000, w, m.Lq, q) - quo(1000, m.R, d)
	bq = -quo(1000, m.R, q) - quo(1000000, w, m.Ld, d) - w*m.Flux
	return bd, bq
}

func wantInner(m api.Motor, d, q, w int64) numbers {
	if !isMotor(m) {
		return bad(api.ErrArg)
	}
	if !within(mostAmp, d, q) || !within(mostSpeed, w) {
		return bad(api.ErrRange)
	}
	return good(innerOf(m, d, q, w))
}

// nextOf is the next state of a valid motor, whatever it is.
func nextOf(m api.Motor, s api.Rotor, vd, vq, load int64) api.Rotor {
	w := quo(1000, s.Speed)
	bd, bq := innerOf(m, s.D, s.Q, w)
	n := api.Rotor{D: s.D + quo(m.Ld, vd+bd, m.Micro), Q: s.Q + quo(m.Lq, vq+bq, m.Micro)}
	n.Speed = s.Speed + quo(1<<20, torqueOf(m, s.D, s.Q)-load-m.Drag*w, m.Spin)
	n.Angle = s.Angle + quo(1000000000000, s.Speed, m.Micro, 10430378)
	n.Angle -= 65536 * quo(65536, n.Angle)
	return n
}

func wantStep(m api.Motor, s api.Rotor, vd, vq, load int64) aState {
	switch {
	case !isMotor(m):
		return aState{e: api.ErrArg}
	case !isState(s) || !within(mostBus, vd, vq) || !within(mostTorque, load):
		return aState{e: api.ErrRange}
	case !within(mostTorque, torqueOf(m, s.D, s.Q)) || !isState(nextOf(m, s, vd, vq, load)):
		return aState{e: api.ErrOver}
	}
	return aState{s: nextOf(m, s, vd, vq, load)}
}

// shiftedBy is a motor with offsets that are quantities.
func shiftedBy(m api.Motor, l ...int64) api.Motor {
	m.R, m.Ld, m.Lq, m.Flux = m.R+l[0], m.Ld+l[1], m.Lq+l[2], m.Flux+l[3]
	return m
}

func wantApply(m api.Motor, l []int64) aMotor {
	if !isMotor(m) || len(l) != 4 || !within(quantities, l...) {
		return aMotor{e: api.ErrArg}
	}
	if !isMotor(shiftedBy(m, l...)) {
		return aMotor{e: api.ErrRange}
	}
	return aMotor{m: shiftedBy(m, l...)}
}

// ends are a motor with the least, and one with the greatest offsets of tolerances.
func ends(m api.Motor, tol []api.Span) (lo, hi api.Motor) {
	return shiftedBy(m, tol[0].Lo, tol[1].Lo, tol[2].Lo, tol[3].Lo), shiftedBy(m, tol[0].Hi, tol[1].Hi, tol[2].Hi, tol[3].Hi)
}

// looseError is the error of a motor and of tolerances.
func looseError(m api.Motor, tol []api.Span) api.Errno {
	if !isMotor(m) || len(tol) != 5 {
		return api.ErrArg
	}
	for _, s := range tol {
		if !within(quantities, s.Lo, s.Hi) || s.Lo > s.Hi {
			return api.ErrArg
		}
	}
	if lo, hi := ends(m, tol); !isMotor(lo) || !isMotor(hi) || !within(mostSpeed, tol[4].Lo, tol[4].Hi) {
		return api.ErrRange
	}
	return api.OK
}

// roomOf is the room of a possible bus voltage.
func roomOf(bus int64) int64 { return quo(65536, bus, 26755) }

// productOf is the span of all products of ends.
func productOf(a, b, c api.Span) api.Span {
	var l []int64
	for _, x := range []int64{a.Lo, a.Hi} {
		for _, y := range []int64{b.Lo, b.Hi} {
			l = append(l, x*y*c.Lo, x*y*c.Hi)
		}
	}
	return span(slices.Min(l), slices.Max(l))
}

// allowedFor are the allowed voltages, also if there are none.
func allowedFor(m api.Motor, tol []api.Span, d, q, speed int64) (a, b api.Span) {
	lo, hi := ends(m, tol)
	one, w := span(1, 1), span(speed+tol[4].Lo, speed+tol[4].Hi)
	rd, rq := productOf(one, span(lo.R, hi.R), span(d, d)), productOf(one, span(lo.R, hi.R), span(q, q))
	wd, wq := productOf(w, span(lo.Ld, hi.Ld), span(d, d)), productOf(w, span(lo.Lq, hi.Lq), span(q, q))
	flux := productOf(one, w, span(lo.Flux, hi.Flux))
	bd := span(-quo(1000, rd.Hi)+quo(1000000, wq.Lo), -quo(1000, rd.Lo)+quo(1000000, wq.Hi))
	bq := span(-quo(1000, rq.Hi)-quo(1000000, wd.Hi)-flux.Hi, -quo(1000, rq.Lo)-quo(1000000, wd.Lo)-flux.Lo)
	a = span(-quo(m.Micro, m.Current+d, lo.Ld)-bd.Lo, quo(m.Micro, (m.Current-d+1)*lo.Ld-1)-bd.Hi)
	b = span(-quo(m.Micro, m.Current+q, lo.Lq)-bq.Lo, quo(m.Micro, (m.Current-q+1)*lo.Lq-1)-bq.Hi)
	return a, b
}

func wantAllowed(m api.Motor, tol []api.Span, d, q, speed int64) spans {
	if e := looseError(m, tol); e != api.OK {
		return badSpans(e)
	}
	if !within(m.Current, d, q) || !within(m.Fast, speed) {
		return badSpans(api.ErrRange)
	}
	a, b := allowedFor(m, tol, d, q, speed)
	if a.Lo > a.Hi || b.Lo > b.Hi {
		return badSpans(api.ErrLimit)
	}
	return spans{a: a, b: b}
}

// needs are the room that a motor with tolerances needs to hold, and what the second and the third condition compare: it holds if 2 I L is at least (s + 2) Micro, for both.
func needs(m api.Motor, tol []api.Span) (room, haveD, needD, haveQ, needQ int64) {
	lo, hi := ends(m, tol)
	i, w, e := m.Current, m.Fast+max(-tol[4].Lo, tol[4].Lo, -tol[4].Hi, tol[4].Hi), tol[4].Hi-tol[4].Lo
	room = max(upQuo(1000, hi.R, i)+upQuo(1000000, w, hi.Lq, i)+2, upQuo(1000, hi.R, i)+upQuo(1000000, w, hi.Ld, i)+w*hi.Flux+2)
	resist := upQuo(1000, hi.R-lo.R, i)
	s := resist + upQuo(1000000, e*hi.Lq+w*(hi.Lq-lo.Lq), i) + 4
	haveD, needD = 2*i*lo.Ld, (s+2)*m.Micro
	s = resist + upQuo(1000000, e*hi.Ld+w*(hi.Ld-lo.Ld), i) + e*hi.Flux + w*(hi.Flux-lo.Flux) + 4
	haveQ, needQ = 2*i*lo.Lq, (s+2)*m.Micro
	return room, haveD, needD, haveQ, needQ
}

func wantHolds(m api.Motor, tol []api.Span, bus int64) answer {
	if e := looseError(m, tol); e != api.OK {
		return answer{e: e}
	}
	if bus < 1 || bus > mostBus {
		return answer{e: api.ErrRange}
	}
	room, haveD, needD, haveQ, needQ := needs(m, tol)
	return answer{is: roomOf(bus) >= room && haveD >= needD && haveQ >= needQ}
}

// isTuning reports whether gains are possible.
func isTuning(g api.Tuning) bool { return min(g.P, g.I) >= 0 && max(g.P, g.I) <= 1<<24 }

func wantRegulate(g api.Tuning, sum, wrong int64, s api.Span) numbers {
	if !isTuning(g) || !within(quantities, s.Lo, s.Hi) || s.Lo > s.Hi {
		return bad(api.ErrArg)
	}
	if !within(mostSum, sum) || !within(2*mostAmp, wrong) {
		return bad(api.ErrRange)
	}
	raw := quo(65536, g.P, wrong) + sum
	grown := min(max(sum+quo(65536, g.I, wrong), -mostSum), mostSum)
	switch {
	case raw > s.Hi && wrong >= 0:
		return good(s.Hi, sum)
	case raw > s.Hi:
		return good(s.Hi, grown)
	case raw < s.Lo && wrong <= 0:
		return good(s.Lo, sum)
	case raw < s.Lo:
		return good(s.Lo, grown)
	}
	return good(raw, grown)
}

// played are the arguments of a play.
type played struct {
	m       api.Motor
	offsets []int64
	tol     []api.Span
	g       [2]api.Tuning
	bus     int64
	s       api.Rotor
	l       []api.Order
	errs    []int64
}

// playError is the error of the arguments of a play, before its first step.
func playError(p played) api.Errno {
	if e := looseError(p.m, p.tol); e != api.OK {
		return e
	}
	if w := wantApply(p.m, p.offsets); w.e != api.OK {
		return w.e
	}
	for i, x := range p.offsets {
		if x < p.tol[i].Lo || x > p.tol[i].Hi {
			return api.ErrRange
		}
	}
	switch {
	case !isTuning(p.g[0]) || !isTuning(p.g[1]):
		return api.ErrArg
	case p.bus < 1 || p.bus > mostBus:
		return api.ErrRange
	case len(p.l) > 2000:
		return api.ErrMany
	case len(p.errs) != len(p.l):
		return api.ErrEqual
	}
	for i, o := range p.l {
		if p.errs[i] < p.tol[4].Lo || p.errs[i] > p.tol[4].Hi || !within(mostAmp, o.D, o.Q) || !within(mostTorque, o.Load) {
			return api.ErrRange
		}
	}
	if !isState(p.s) || !within(p.m.Current, p.s.D, p.s.Q) {
		return api.ErrRange
	}
	return api.OK
}

func wantPlay(p played) ([]api.Rotor, api.Errno) {
	if e := playError(p); e != api.OK {
		return nil, e
	}
	var states []api.Rotor
	var sums [2]int64
	s, room := p.s, roomOf(p.bus)
	for i, o := range p.l {
		measured := quo(1000, s.Speed) - p.errs[i]
		if !within(p.m.Fast, measured) {
			return nil, api.ErrLimit
		}
		a, b := allowedFor(p.m, p.tol, s.D, s.Q, measured)
		a, b = span(max(a.Lo, -room), min(a.Hi, room)), span(max(b.Lo, -room), min(b.Hi, room))
		if a.Lo > a.Hi || b.Lo > b.Hi {
			return nil, api.ErrLimit
		}
		forD, forQ := wantRegulate(p.g[0], sums[0], o.D-s.D, a), wantRegulate(p.g[1], sums[1], o.Q-s.Q, b)
		sums = [2]int64{forD.b, forQ.b}
		next := wantStep(shiftedBy(p.m, p.offsets...), s, forD.a, forQ.a, o.Load)
		if next.e != api.OK {
			return nil, next.e
		}
		s = next.s
		states = append(states, s)
	}
	return states, api.OK
}

// needed are the needed voltages.
func needed(m api.Motor, d, q, w int64) (vd, vq int64) {
	bd, bq := innerOf(m, d, q, w)
	return -bd, -bq
}

// fieldError is the error of a speed, a bus voltage, and a greatest current.
func fieldError(m api.Motor, speed, bus, most int64) api.Errno {
	if !isMotor(m) {
		return api.ErrArg
	}
	if !within(mostSpeed, speed) || bus < 1 || bus > mostBus || most < 0 || most > mostAmp {
		return api.ErrRange
	}
	return api.OK
}

// wantWeaken tries every d.
func wantWeaken(m api.Motor, q, speed, bus, most int64) numbers {
	if e := fieldError(m, speed, bus, most); e != api.OK {
		return bad(e)
	}
	if !within(mostAmp, q) {
		return bad(api.ErrRange)
	}
	room := roomOf(bus)
	for d := int64(0); d >= -most; d-- {
		if vd, vq := needed(m, d, q, speed); within(room, vd, vq) {
			return good(d, 0)
		}
	}
	return bad(api.ErrLimit)
}

// wantStrongest tries every q.
func wantStrongest(m api.Motor, speed, bus, most int64) numbers {
	if e := fieldError(m, speed, bus, most); e != api.OK {
		return bad(e)
	}
	for q := most; q >= 0; q-- {
		if w := wantWeaken(m, q, speed, bus, most); w.e == api.OK && w.a*w.a+q*q <= most*most {
			return good(q, w.a)
		}
	}
	return bad(api.ErrLimit)
}

func wantBlend(demand int64, s api.Span, brake int64) numbers {
	switch {
	case !within(mostTorque, demand, s.Lo, s.Hi) || brake < 0 || brake > mostTorque:
		return bad(api.ErrRange)
	case s.Lo > 0 || s.Hi < 0:
		return bad(api.ErrArg)
	case demand >= 0:
		return good(min(demand, s.Hi), 0)
	case demand >= s.Lo:
		return good(demand, 0)
	}
	return good(s.Lo, min(s.Lo-demand, brake))
}

// wantShares fills the wheels up to a level that grows, for small numbers.
func wantShares(total int64, most []int64) []int64 {
	fill := func(l int64) (shares []int64, sum int64) {
		for _, x := range most {
			shares, sum = append(shares, min(l, x)), sum+min(l, x)
		}
		return shares, sum
	}
	if _, sum := fill(mostTorque); sum <= total {
		return most
	}
	l := int64(0)
	for _, sum := fill(l + 1); sum <= total; _, sum = fill(l + 1) {
		l++
	}
	shares, sum := fill(l)
	for i := range shares {
		if sum < total && shares[i] < most[i] {
			shares[i]++
			sum++
		}
	}
	return shares
}
