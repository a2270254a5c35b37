package drive_test

import (
	"testing"

	"coulomb/api"
	"coulomb/drive"
)

// P6.4: motors at each bound, and beyond.
func TestCheck(t *testing.T) {
	for _, m := range edgeMotors() {
		same(t, drive.Check(m), api.OK, "Check", m)
	}
	for _, m := range wildMotors() {
		same(t, drive.Check(m), api.ErrArg, "Check", m)
	}
}

// P6.4: the torque, rounded down twice, and at its limit in both directions.
func TestTorque(t *testing.T) {
	flux := func(x int64) api.Motor { return plain(func(m *api.Motor) { m.Flux = x }) }
	apart := func(ld, lq int64) api.Motor {
		return plain(func(m *api.Motor) { m.Ld, m.Lq, m.Flux, m.Poles = ld, lq, 0, 1 })
	}
	// 3 times 16 poles times 2,863,311,530,666.67 by 2,000 is the limit
	great := plain(func(m *api.Motor) { m.Ld, m.Lq, m.Flux, m.Poles = 2, 1, 2863311, 16 })
	for _, x := range []struct {
		m    api.Motor
		d, q int64
		want numbers
	}{
		{plain(), 0, 1000, good(30000, 0)}, {plain(), 777, 1000, good(30000, 0)}, {plain(), 0, -1000, good(-30000, 0)}, {plain(), 5, 0, good(0, 0)},
		{flux(1), 0, 333, good(0, 0)}, {flux(1), 0, 334, good(1, 0)}, {flux(1), 0, -1, good(-1, 0)}, {flux(1), 0, -333, good(-1, 0)}, {flux(1), 0, -334, good(-2, 0)},
		{apart(3, 2), 1000, 666999, good(0, 0)}, {apart(3, 2), 1000, 667000, good(1, 0)}, {apart(3, 2), 1000, -666000, good(-1, 0)}, {apart(3, 2), 1000, -666001, good(-2, 0)},
		{apart(2, 3), 1000, 666000, good(-1, 0)}, {apart(2, 3), -1000, 667000, good(1, 0)}, {apart(2, 3), -1000, -1, good(-1, 0)},
		{great, 530708, 1000000, good(mostTorque, 0)}, {great, 530709, 1000000, bad(api.ErrOver)},
		{great, 530666, -1000000, good(-mostTorque, 0)}, {great, 530667, -1000000, bad(api.ErrOver)},
	} {
		same(t, numberOf(drive.Torque(x.m, x.d, x.q)), x.want, "Torque", x.m, x.d, x.q)
	}
}

// P6.4: torques and inner voltages of motors at the bounds, and drawn ones.
func TestTorquesAndInners(t *testing.T) {
	r := chance(3)
	edges := edgesUpTo(mostAmp)
	check := func(m api.Motor, d, q, w int64) {
		same(t, numberOf(drive.Torque(m, d, q)), wantTorque(m, d, q), "Torque", m, d, q)
		same(t, numbersOf(drive.Inner(m, d, q, w)), wantInner(m, d, q, w), "Inner", m, d, q, w)
	}
	for _, m := range edgeMotors() {
		for _, d := range edges {
			check(m, d, pick(r, edges...), pick(r, edgesUpTo(mostSpeed)...))
			check(m, pick(r, edges...), d, pick(r, -mostSpeed, drawUpTo(r, mostSpeed), mostSpeed))
		}
	}
	for range 20000 {
		check(drawMotor(r), drawUpTo(r, mostAmp), drawUpTo(r, mostAmp), drawUpTo(r, mostSpeed))
	}
}

// P6.4: the inner voltages, whose quotients are rounded down before their signs count.
func TestInner(t *testing.T) {
	with := func(r, ld, lq, flux int64) api.Motor {
		return plain(func(m *api.Motor) { m.R, m.Ld, m.Lq, m.Flux = r, ld, lq, flux })
	}
	for _, x := range []struct {
		m       api.Motor
		d, q, w int64
		want    numbers
	}{
		{plain(), 1000, -1000, 10, good(-1000, -101000)},
		{with(1, 1, 1, 0), 999, -1, 0, good(0, 1)}, {with(1, 1, 1, 0), -999, 1000, 0, good(1, -1)}, {with(1, 1, 1, 0), -1000, 1001, 0, good(1, -1)}, {with(1, 1, 1, 0), -1001, -1000, 0, good(2, 1)},
		{with(0, 1, 3, 0), 0, 333333, 1, good(0, 0)}, {with(0, 1, 3, 0), 0, 333334, 1, good(1, 0)}, {with(0, 1, 3, 0), 0, 1, -1, good(-1, 0)}, {with(0, 1, 3, 0), 0, -333334, 1, good(-2, 0)},
		{with(0, 3, 1, 0), 333333, 0, 1, good(0, 0)}, {with(0, 3, 1, 0), 333334, 0, 1, good(0, -1)}, {with(0, 3, 1, 0), -1, 0, 1, good(0, 1)}, {with(0, 3, 1, 0), 333334, 0, -1, good(0, 2)},
		{with(0, 1, 1, 7), 0, 0, 3, good(0, -21)}, {with(0, 1, 1, 7), 0, 0, -3, good(0, 21)},
		{with(1<<20, 1<<22, 1<<22, 1<<22), 1 << 20, 1 << 20, 1 << 14, good(70958082410, -141876582400)},
	} {
		same(t, numbersOf(drive.Inner(x.m, x.d, x.q, x.w)), x.want, "Inner", x.m, x.d, x.q, x.w)
	}
}

// P6.4: currents and speeds that are not possible; a motor that is not valid comes before all others.
func TestWildTorquesAndInners(t *testing.T) {
	for _, x := range beyond(mostAmp) {
		for _, l := range [][2]int64{{x, 0}, {0, x}, {x, x}} {
			same(t, numberOf(drive.Torque(plain(), l[0], l[1])), bad(api.ErrRange), "Torque", l)
			same(t, numbersOf(drive.Inner(plain(), l[0], l[1], 0)), bad(api.ErrRange), "Inner", l)
			same(t, numberOf(drive.Torque(api.Motor{}, l[0], l[1])), bad(api.ErrArg), "Torque", l)
			same(t, numbersOf(drive.Inner(api.Motor{}, l[0], l[1], 0)), bad(api.ErrArg), "Inner", l)
		}
	}
	for _, x := range beyond(mostSpeed) {
		same(t, numbersOf(drive.Inner(plain(), 0, 0, x)), bad(api.ErrRange), "Inner", x)
	}
	for _, m := range wildMotors() {
		same(t, numberOf(drive.Torque(m, 0, 0)), bad(api.ErrArg), "Torque", m)
		same(t, numbersOf(drive.Inner(m, 0, 0, 0)), bad(api.ErrArg), "Inner", m)
	}
}

// P6.5: each part of the next state.
func TestSomeSteps(t *testing.T) {
	slow := func(m *api.Motor) { m.Spin = 0 }
	by := func(spin, drag int64) api.Motor {
		return plain(func(m *api.Motor) { m.Spin, m.Drag = spin, drag })
	}
	for _, x := range []struct {
		m            api.Motor
		s            api.Rotor
		vd, vq, load int64
		want         api.Rotor
	}{
		{plain(), api.Rotor{Q: 1000, Speed: 10999, Angle: 65535}, 1000, 100000, 29999, api.Rotor{D: 2, Q: 1000, Speed: 11000, Angle: 10}},
		{plain(slow), api.Rotor{}, 0, 0, 5, api.Rotor{}},
		{plain(slow), api.Rotor{}, 999, 1000, 0, api.Rotor{Q: 1}},
		{plain(slow), api.Rotor{}, -1, -1001, 0, api.Rotor{D: -1, Q: -2}},
		{plain(slow), api.Rotor{D: 7, Q: -9}, 3000, -2000, 0, api.Rotor{D: 10, Q: -11}},
		{plain(slow), api.Rotor{Speed: 1999}, 0, 10000, 0, api.Rotor{Speed: 1999, Angle: 2}},                                                 // 1 rad/s, and 2.08 parts of a turn
		{plain(slow), api.Rotor{Speed: -1}, 0, -10000, 0, api.Rotor{Speed: -1, Angle: 65535}},                                                // -1 rad/s
		{plain(slow), api.Rotor{Speed: -1000000, Angle: 5}, 0, -10000000, 0, api.Rotor{Speed: -1000000, Angle: 65536 - 1039}},                // -1043.04 parts
		{plain(slow), api.Rotor{Speed: 16384000, Angle: 65535}, 0, 163840000, 0, api.Rotor{Speed: 16384000, Angle: (65535 + 17089) % 65536}}, // 17089.13 parts
		{by(1, 0), api.Rotor{}, 0, 0, -1 << 20, api.Rotor{Speed: 1}},
		{by(1, 0), api.Rotor{}, 0, 0, -1<<20 + 1, api.Rotor{}},
		{by(1, 0), api.Rotor{}, 0, 0, 1, api.Rotor{Speed: -1}},
		{by(1<<20, 3), api.Rotor{Speed: 2999}, 0, 20000, 0, api.Rotor{Speed: 2993, Angle: 3}},
		{by(1<<20, 3), api.Rotor{Speed: -2999}, 0, -30000, 0, api.Rotor{Speed: -2990, Angle: 65532}},
	} {
		same(t, stateOf(drive.Step(x.m, x.s, x.vd, x.vq, x.load)), aState{s: x.want}, "Step", x)
	}
}

// P6.5: steps to the limits of a state, and beyond.
func TestStepsAtLimits(t *testing.T) {
	free := func(m *api.Motor) { m.Flux = 0 }
	still := func(m *api.Motor) { m.Flux, m.Spin = 0, 0 }
	long := func(m *api.Motor) { m.Micro = 1000 }
	great := plain(still, func(m *api.Motor) { m.Ld, m.Lq, m.Flux, m.Poles = 2, 1, 2863311, 16 })
	over := aState{e: api.ErrOver}
	for _, x := range []struct {
		m            api.Motor
		s            api.Rotor
		vd, vq, load int64
		want         aState
	}{
		{plain(still), api.Rotor{D: mostAmp - 5}, 5999, 0, 0, aState{s: api.Rotor{D: mostAmp}}},
		{plain(still), api.Rotor{D: mostAmp - 5}, 6000, 0, 0, over},
		{plain(still), api.Rotor{D: 5 - mostAmp}, -5000, 0, 0, aState{s: api.Rotor{D: -mostAmp}}},
		{plain(still), api.Rotor{D: 5 - mostAmp}, -5001, 0, 0, over},
		{plain(still), api.Rotor{Q: mostAmp - 5}, 0, 5999, 0, aState{s: api.Rotor{Q: mostAmp}}},
		{plain(still), api.Rotor{Q: mostAmp - 5}, 0, 6000, 0, over},
		{plain(still), api.Rotor{Q: 5 - mostAmp}, 0, -5000, 0, aState{s: api.Rotor{Q: -mostAmp}}},
		{plain(still), api.Rotor{Q: 5 - mostAmp}, 0, -5001, 0, over},
		{plain(free), api.Rotor{Speed: 16383999}, 0, 0, -1, aState{s: api.Rotor{Speed: 16384000, Angle: 17089}}},
		{plain(free), api.Rotor{Speed: 16383999}, 0, 0, -2, over},
		{plain(free), api.Rotor{Speed: -16383999}, 0, 0, 1, aState{s: api.Rotor{Speed: -16384000, Angle: 65536 - 17090}}},
		{plain(free), api.Rotor{Speed: -16383999}, 0, 0, 2, over},
		{plain(still, long), api.Rotor{Speed: 12869524}, 0, 0, 0, aState{s: api.Rotor{Speed: 12869524, Angle: 3162}}},  // 134,234.00000007 parts of a turn
		{plain(still, long), api.Rotor{Speed: 14550767}, 0, 0, 0, aState{s: api.Rotor{Speed: 14550767, Angle: 20697}}}, // 151,769.9999999 parts
		{plain(still), api.Rotor{}, mostBus, -mostBus, mostTorque, over},
		{plain(still, func(m *api.Motor) { m.Micro = 1 }), api.Rotor{}, mostBus, -mostBus, mostTorque, aState{s: api.Rotor{D: 10737, Q: -10738}}},
		{plain(still), api.Rotor{}, 0, 0, -mostTorque, aState{}},
		{great, api.Rotor{D: 530708, Q: 1000000}, 0, 0, 0, aState{s: api.Rotor{D: 530708, Q: 1000000}}},
		{great, api.Rotor{D: 530709, Q: 1000000}, 0, 0, 0, over},
		{great, api.Rotor{D: 530667, Q: -1000000}, 0, 0, 0, over},
	} {
		same(t, stateOf(drive.Step(x.m, x.s, x.vd, x.vq, x.load)), x.want, "Step", x)
	}
}

// P6.5: what cannot be stepped; a motor that is not valid comes first, and errors of arguments before those of results.
func TestWildSteps(t *testing.T) {
	check := func(s api.Rotor, vd, vq, load int64) {
		t.Helper()
		same(t, stateOf(drive.Step(lively(), s, vd, vq, load)), aState{e: api.ErrRange}, "Step", s, vd, vq, load)
		same(t, stateOf(drive.Step(api.Motor{}, s, vd, vq, load)), aState{e: api.ErrArg}, "Step", s, vd, vq, load)
	}
	for _, x := range beyond(mostAmp) {
		check(api.Rotor{D: x}, 0, 0, 0)
		check(api.Rotor{Q: x}, 0, 0, 0)
	}
	for _, x := range beyond(1000 * mostSpeed) {
		check(api.Rotor{Speed: x}, 0, 0, 0)
	}
	for _, x := range wildAngles() {
		check(api.Rotor{Angle: x}, 0, 0, 0)
	}
	for _, x := range beyond(mostBus) {
		check(api.Rotor{}, x, 0, 0)
		check(api.Rotor{}, 0, x, 0)
	}
	for _, x := range beyond(mostTorque) {
		check(api.Rotor{}, 0, 0, x)
		check(api.Rotor{}, mostBus, mostBus, x)
	}
	for _, m := range wildMotors() {
		same(t, stateOf(drive.Step(m, api.Rotor{}, 0, 0, 0)), aState{e: api.ErrArg}, "Step", m)
	}
}

// P6.5: drawn steps, of which many are possible.
func TestDrawnSteps(t *testing.T) {
	r := chance(4)
	steps := 0
	for range 40000 {
		m := drawMotor(r)
		s := drawState(r, pick(r, m.Current, mostAmp), drawUpTo(r, pick(r, m.Fast, mostSpeed)))
		bd, bq := innerOf(m, s.D, s.Q, quo(1000, s.Speed))
		vd, vq := drawUpTo(r, mostBus), drawUpTo(r, mostBus)
		if near := pick[int64](r, 1, 1000, 1000000, mostBus); r.Intn(2) == 0 { // so that the currents do not change much
			vd, vq = min(max(drawUpTo(r, near)-bd, -mostBus), mostBus), min(max(drawUpTo(r, near)-bq, -mostBus), mostBus)
		}
		load := drawUpTo(r, mostTorque)
		want := wantStep(m, s, vd, vq, load)
		same(t, stateOf(drive.Step(m, s, vd, vq, load)), want, "Step", m, s, vd, vq, load)
		if want.e == api.OK {
			steps++
		}
	}
	if steps < 4000 {
		t.Errorf("only %d steps are possible", steps)
	}
}

// P6.6: motors with offsets.
func TestApply(t *testing.T) {
	m := lively()
	same(t, motorOf(drive.Apply(m, []int64{1, 2, 3, 4})), aMotor{m: lively(func(m *api.Motor) { m.R, m.Ld, m.Lq, m.Flux = 53004, 190009, 310006, 20015 })}, "Apply")
	for i, b := range boundsOf(&m)[:4] {
		for _, x := range []struct {
			offset int64
			e      api.Errno
		}{
			{b.lo - *b.field, api.OK}, {b.hi - *b.field, api.OK}, {b.lo - *b.field - 1, api.ErrRange}, {b.hi - *b.field + 1, api.ErrRange},
			{quantities, api.ErrRange}, {-quantities, api.ErrRange}, {quantities + 1, api.ErrArg}, {-quantities - 1, api.ErrArg},
		} {
			l := offsets()
			l[i] = x.offset
			want := aMotor{e: x.e}
			if x.e == api.OK {
				want.m = shiftedBy(m, l...)
			}
			same(t, motorOf(drive.Apply(m, l)), want, "Apply", l)
		}
		for _, x := range wildNumbers() {
			l := []int64{quantities, quantities, quantities, quantities} // the numbers are looked at before the motor
			l[i] = x
			same(t, motorOf(drive.Apply(m, l)), aMotor{e: api.ErrArg}, "Apply", l)
		}
	}
	for _, l := range [][]int64{nil, {}, {0}, {0, 0, 0}, {0, 0, 0, 0, 0}, make([]int64, 100), {quantities, quantities, quantities}} {
		same(t, motorOf(drive.Apply(m, l)), aMotor{e: api.ErrArg}, "Apply", l)
	}
	for _, wild := range wildMotors() {
		same(t, motorOf(drive.Apply(wild, offsets(1, 1, 1, 1))), aMotor{e: api.ErrArg}, "Apply", wild)
	}
	r := chance(5)
	for range 2000 {
		m := drawMotor(r)
		l := []int64{drawUpTo(r, 1<<20), drawUpTo(r, 1<<22), drawUpTo(r, 1<<22), drawAny[int64](r, 0, wildNumbers()...)}
		same(t, motorOf(drive.Apply(m, l)), wantApply(m, l), "Apply", m, l)
		l = drawOffsets(r, drawTolerances(r, m))
		same(t, motorOf(drive.Apply(m, l)), aMotor{m: shiftedBy(m, l...)}, "Apply", m, l)
	}
}
