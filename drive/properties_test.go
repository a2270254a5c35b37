package drive_test

import (
	"math/rand"
	"testing"

	"coulomb/api"
	"coulomb/drive"
)

// P6.15: whatever is allowed, the next currents are within their limit, for each load.
func TestNoLimitIsPassed(t *testing.T) {
	r := chance(12)
	steps := 0
	for range 30000 {
		m := pick(r, drawMotor, drawUsual, drawTiny)(r)
		tol := drawTolerances(r, m)
		d, q, speed := drawUpTo(r, m.Current), drawUpTo(r, m.Current), drawSpeed(r, m)
		forD, forQ, e := drive.Allowed(m, tol, d, q, speed)
		w := speed + drawIn(r, tol[4])
		if e != api.OK || !within(mostSpeed, w) {
			continue
		}
		real, e := drive.Apply(m, drawOffsets(r, tol))
		if e != api.OK {
			t.Fatalf("Apply: %d", e)
		}
		s := drawState(r, 0, w)
		s.D, s.Q = d, q
		for range 3 {
			vd, vq, load := drawIn(r, forD), drawIn(r, forQ), drawUpTo(r, mostTorque)
			if !within(mostBus, vd, vq) {
				continue
			}
			next, e := drive.Step(real, s, vd, vq, load)
			if e == api.ErrOver { // then it is the torque, or the speed
				next = nextOf(real, s, vd, vq, load)
				if within(mostTorque, torqueOf(real, d, q)) && within(1000*mostSpeed, next.Speed) {
					t.Errorf("Step %v, %v, %d, %d, %d: ErrOver", real, s, vd, vq, load)
				}
			}
			if !within(m.Current, next.D, next.Q) {
				t.Errorf("Step %v, %v, %d, %d, %d: %v, which passes a limit", real, s, vd, vq, load, next)
			}
			steps++
		}
	}
	if steps < 10000 {
		t.Errorf("only %d steps", steps)
	}
}

// drawHolding draws a motor with tolerances that holds with a bus voltage: often with just enough.
func drawHolding(r *rand.Rand) (m api.Motor, tol []api.Span, bus int64) {
	for {
		m = pick(r, drawMotor, drawUsual, drawUsual, drawTiny)(r)
		tol = drawTolerances(r, m)
		room, haveD, needD, haveQ, needQ := needs(m, tol)
		bus = upQuo(26755, room, 65536)
		if bus > mostBus || haveD < needD || haveQ < needQ {
			continue
		}
		if bus = pick(r, bus, bus, drawInt(r, bus, mostBus)); bus > 0 {
			return m, tol, bus
		}
	}
}

// P6.16: a motor that holds always has allowed voltages within the room.
func TestHoldingMotorsHaveVoltages(t *testing.T) {
	r := chance(13)
	for range 2000 {
		m, tol, bus := drawHolding(r)
		if holds, e := drive.Holds(m, tol, bus); !holds || e != api.OK {
			t.Errorf("Holds %v, %v, %d: %t, %d", m, tol, bus, holds, e)
		}
		room, _ := drive.Room(bus)
		for range 20 {
			d, q := pick(r, -m.Current, drawUpTo(r, m.Current), m.Current), pick(r, -m.Current, drawUpTo(r, m.Current), m.Current)
			speed := pick(r, -m.Fast, drawSpeed(r, m), m.Fast)
			forD, forQ, e := drive.Allowed(m, tol, d, q, speed)
			if e != api.OK || max(forD.Lo, forQ.Lo) > room || min(forD.Hi, forQ.Hi) < -room {
				t.Errorf("Allowed %v, %v, %d, %d, %d: %v, %v, %d, with the room %d", m, tol, d, q, speed, forD, forQ, e, room)
			}
		}
	}
}

// drawOrders draws orders for a motor that holds, and loads that it may not carry.
func drawOrders(r *rand.Rand, p *played, n int) {
	load := pick[int64](r, 0, 1000, 1000000, mostTorque)
	for range n {
		o := api.Order{D: drawUpTo(r, pick(r, p.m.Current, mostAmp)), Q: drawUpTo(r, pick(r, p.m.Current, mostAmp)), Load: drawUpTo(r, load)}
		p.l, p.errs = append(p.l, o), append(p.errs, drawIn(r, p.tol[4]))
	}
}

// P6.16, G7: whatever is ordered, and whatever the load is, a play of a motor that holds goes on as long as the measured speed is within Fast, and keeps the currents within their limit.
func TestHoldingMotorsGoOn(t *testing.T) {
	r := chance(14)
	const steps = 30
	full := 0
	for range 1500 {
		m, tol, bus := drawHolding(r)
		m.Spin = pick(r, 0, m.Spin)
		p := played{m: m, offsets: drawOffsets(r, tol), tol: tol, g: [2]api.Tuning{drawGains(r), drawGains(r)}, bus: bus}
		p.s = drawState(r, m.Current, min(max(drawSpeed(r, m), -mostSpeed), mostSpeed-1))
		drawOrders(r, &p, steps)
		s := p.s
		for n := range steps {
			part := p
			part.l, part.errs = p.l[:n+1], p.errs[:n+1]
			states, e := run(part)
			if e == api.ErrOver || !within(m.Fast, quo(1000, s.Speed)-p.errs[n]) {
				break // nothing is promised of this step
			}
			if e != api.OK || len(states) != n+1 || !within(m.Current, states[n].D, states[n].Q) {
				t.Fatalf("Play %v: %v, %d", part, states, e)
			}
			s = states[n]
			full += n / (steps - 1)
		}
	}
	if full < 200 {
		t.Errorf("only %d plays come to their end", full)
	}
}

// P6.16: errors of the speed that keep the measured speed within Fast do so, too, though the real one is beyond it.
func TestHoldingBeyondFast(t *testing.T) {
	m := plain(func(m *api.Motor) { m.Spin = 0 })
	tol := tolerances(0, 0, 0, 0, 0, 0, 0, 0, -20, 20)
	p := play(func(p *played) { p.m, p.tol, p.s.Speed = m, tol, 120999 }, ordered([]api.Order{{D: mostAmp, Q: -mostAmp}, {D: -mostAmp, Q: mostAmp}, {}}, 20))
	if holds, e := drive.Holds(m, tol, p.bus); !holds || e != api.OK {
		t.Errorf("Holds: %t, %d", holds, e)
	}
	states, e := checkPlay(t, p)
	if e != api.OK || len(states) != 3 {
		t.Fatalf("Play: %v, %d", states, e)
	}
	for _, s := range states {
		if !within(m.Current, s.D, s.Q) {
			t.Errorf("Play: %v, which passes a limit", s)
		}
	}
	p.s.Speed = 121000
	if states, e := checkPlay(t, p); e != api.ErrLimit || len(states) > 0 {
		t.Errorf("Play: %v, %d", states, e)
	}
}
