package drive_test

import (
	"math/rand"
	"testing"

	"coulomb/api"
	"coulomb/drive"
)

// bare is a motor of which only the field is there: a current d of -1 mA takes 10 microvolt off at 100 rad/s.
func bare(flux int64) api.Motor { return plain(func(m *api.Motor) { m.Flux = flux }) }

// P6.11: a weakening of 0, of -most, and none.
func TestSomeWeakenings(t *testing.T) {
	limit := bad(api.ErrLimit)
	lossy := plain(func(m *api.Motor) { m.R, m.Flux = 2000, 0 })
	slight := plain(func(m *api.Motor) { m.Ld, m.Flux = 1, 2 })
	for _, x := range []struct {
		m                   api.Motor
		q, speed, bus, most int64
		want                numbers
	}{
		// the room is 816,497 microvolt
		{bare(10000), 0, 100, 2000000, 20000, good(-18351, 0)}, {bare(10000), 0, 100, 2000000, 18351, good(-18351, 0)}, {bare(10000), 0, 100, 2000000, 18350, limit}, {bare(10000), 0, 100, 2000000, 0, limit},
		{bare(10000), 0, -100, 2000000, 20000, good(-18351, 0)}, {bare(10000), 0, -100, 2000000, 18350, limit}, {bare(10000), 0, 0, 1, 0, good(0, 0)}, {bare(10000), 5, 0, 1, 5, good(0, 0)},
		{bare(8164), 0, 100, 2000000, 20000, good(0, 0)}, {bare(8164), 0, 100, 2000000, 0, good(0, 0)}, {bare(8165), 0, 100, 2000000, 20000, good(-1, 0)}, {bare(8165), 0, 100, 2000000, 1, good(-1, 0)}, {bare(8165), 0, 100, 2000000, 0, limit},
		// 10 microvolt for each mA of q in the direction of d, which no d changes
		{bare(0), 81649, 100, 2000000, 5, good(0, 0)}, {bare(0), 81650, 100, 2000000, 5, limit}, {bare(0), -81649, 100, 2000000, 5, good(0, 0)}, {bare(0), -81650, 100, 2000000, 5, limit}, {bare(0), 81650, -100, 2000000, 5, limit},
		// 2 microvolt for each mA of both, with a room of 1,000
		{lossy, 500, 0, 2450, 1000, good(0, 0)}, {lossy, 501, 0, 2450, 1000, limit}, {lossy, -500, 0, 2450, 1000, good(0, 0)}, {lossy, -501, 0, 2450, 1000, limit},
		// at 1 rad/s, 100,000 mA of q in the direction of d need 10,000 microvolt less, and those of d as much more
		{plain(func(m *api.Motor) { m.R, m.Flux, m.Ld = 2000, 0, 1 }), 400, -100, 2450, 2000, good(-1500, 0)}, {plain(func(m *api.Motor) { m.R, m.Flux, m.Ld = 2000, 0, 1 }), 400, -100, 2450, 1499, limit},
		{plain(func(m *api.Motor) { m.R, m.Flux, m.Ld = 2000, 0, 1 }), 400, 100, 2450, 2000, limit},
		// a d that is enough for the one direction is too much for the other one
		{plain(func(m *api.Motor) { m.R, m.Flux = 2000, 100 }), 0, 100, 2450, mostAmp, limit}, {plain(func(m *api.Motor) { m.R, m.Flux = 2000, 59 }), 0, 100, 2450, mostAmp, good(-490, 0)},
		// the slightest inductance: 1 microvolt for a million mA, backwards, and forwards, where it is rounded down
		{slight, 0, -1, 3, mostAmp, good(-1000000, 0)}, {slight, 0, -1, 3, 999999, limit}, {slight, 0, 1, 3, mostAmp, good(-1, 0)}, {slight, 0, 1, 3, 0, limit}, {slight, 0, 1, 5, 0, good(0, 0)},
	} {
		same(t, numberOf(drive.Weaken(x.m, x.q, x.speed, x.bus, x.most)), x.want, "Weaken", x)
	}
}

// P6.11: the greatest current, with the weakening that it has, within a circle.
func TestSomeStrongest(t *testing.T) {
	limit := bad(api.ErrLimit)
	// backwards, the flux gives 1 V at 100 rad/s, of which a current has to take 2 microvolt for each mA
	heavy := plain(func(m *api.Motor) { m.R, m.Ld, m.Lq = 2000, 1, 1 })
	for _, x := range []struct {
		m                api.Motor
		speed, bus, most int64
		want             numbers
	}{
		{bare(10000), 0, 2000000, 300, good(300, 0)}, {bare(10000), 0, 1, 0, good(0, 0)}, {bare(10000), 100, 2000000, 0, limit}, {bare(10000), 100, 2000000, 18350, limit}, {bare(10000), 100, 2000000, 18351, good(0, -18351)},
		{bare(10000), 100, 2000000, 18352, good(191, -18351)}, {bare(10000), -100, 2000000, 20000, good(7952, -18351)}, {bare(0), 100, 2000000, mostAmp, good(81649, 0)}, {bare(0), 100, 2000000, 81649, good(81649, 0)}, {bare(0), 100, 2000000, 5, good(5, 0)},
		{heavy, -100, 2000000, 91751, limit}, {heavy, -100, 2000000, 91752, good(91752, 0)}, {heavy, -100, 2000000, 200000, good(200000, 0)}, {heavy, -100, 2000000, mostAmp, good(908248, 0)},
		{bare(9000), 100, 2000000, 8355, good(258, -8351)}, // 8,351 and 258 are within a circle of 8,355, and 259 is not
	} {
		same(t, numbersOf(drive.Strongest(x.m, x.speed, x.bus, x.most)), x.want, "Strongest", x)
	}
}

// P6.11: what is not possible; a motor that is not valid comes first.
func TestWildWeakenings(t *testing.T) {
	check := func(m api.Motor, e api.Errno, q, speed, bus, most int64) {
		t.Helper()
		same(t, numberOf(drive.Weaken(m, q, speed, bus, most)), bad(e), "Weaken", m, q, speed, bus, most)
		if q == 0 {
			same(t, numbersOf(drive.Strongest(m, speed, bus, most)), bad(e), "Strongest", m, speed, bus, most)
		}
	}
	for _, m := range []api.Motor{plain(), {}} {
		e := api.ErrRange
		if m == (api.Motor{}) {
			e = api.ErrArg
		}
		for _, x := range beyond(mostAmp) {
			check(m, e, x, 0, 1, 0)
			check(m, e, x, x, x, x)
		}
		for _, x := range beyond(mostSpeed) {
			check(m, e, 0, x, 1, 0)
		}
		for _, x := range outside(1, mostBus) {
			check(m, e, 0, 0, x, 0)
		}
		for _, x := range outside(0, mostAmp) {
			check(m, e, 0, 0, 1, x)
			check(m, e, 0, mostSpeed, 1, x) // there is no weakening, either
		}
	}
	for _, m := range wildMotors() {
		check(m, api.ErrArg, 0, 0, 1, 0)
	}
	for _, speed := range []int64{-mostSpeed, mostSpeed} {
		for _, q := range []int64{-mostAmp, mostAmp} {
			same(t, numberOf(drive.Weaken(lively(), q, speed, mostBus, 0)), wantWeaken(lively(), q, speed, mostBus, 0), "Weaken", q, speed)
		}
	}
}

// drawField draws a motor, and a speed and a bus voltage at which it sometimes has to be weakened by an amount up to about a greatest one.
func drawField(r *rand.Rand, most int64) (m api.Motor, speed, bus int64) {
	m = pick(r, drawMotor, drawUsual, drawTiny)(r)
	if r.Intn(2) == 0 { // both directions have needed voltages of the size of the currents
		m.R, m.Ld, m.Lq, m.Flux = drawInt(r, 0, 5000), drawInt(r, 1, 40000), drawInt(r, 1, 40000), drawInt(r, 0, 1+most/20)
	}
	speed = drawUpTo(r, pick(r, m.Fast, 200, mostSpeed))
	vd, vq := needed(m, -drawInt(r, 0, most), drawInt(r, 0, most), speed)
	near := max(vd, -vd, vq, -vq)
	bus = min(max(1, upQuo(26755, near, 65536)+drawInt(r, -3, 3)), mostBus)
	return m, speed, bus
}

// P6.11: drawn motors with small currents, of which all are tried.
func TestDrawnWeakenings(t *testing.T) {
	r := chance(15)
	kinds := map[string]int{}
	for range 6000 {
		most := drawInt(r, 0, 40)
		m, speed, bus := drawField(r, most)
		q := drawUpTo(r, most)
		want := wantWeaken(m, q, speed, bus, most)
		same(t, numberOf(drive.Weaken(m, q, speed, bus, most)), want, "Weaken", m, q, speed, bus, most)
		switch {
		case want.e != api.OK:
			kinds["none"]++
		case want.a == 0:
			kinds["0"]++
		case want.a == -most:
			kinds["most"]++
		default:
			kinds["between"]++
		}
		if most <= 15 {
			best := wantStrongest(m, speed, bus, most)
			same(t, numbersOf(drive.Strongest(m, speed, bus, most)), best, "Strongest", m, speed, bus, most)
			if best.e == api.OK && best.a < most {
				kinds["less"]++
			}
		}
	}
	if min(kinds["none"], kinds["0"], kinds["between"], kinds["less"]) < 100 || kinds["most"] < 20 {
		t.Errorf("these weakenings: %v", kinds)
	}
}

// P6.18: for the weakening, the needed voltages are within the room; for each greater one up to 0 they are not; if there is none, for none.
func TestWeakeningIsTheGreatest(t *testing.T) {
	r := chance(16)
	for range 300 {
		most := drawInt(r, 0, pick[int64](r, 30, 3000))
		m, speed, bus := drawField(r, most)
		q := drawUpTo(r, most)
		room, _ := drive.Room(bus)
		fits := func(d int64) bool {
			bd, bq, e := drive.Inner(m, d, q, speed)
			if e != api.OK {
				t.Fatalf("Inner: %d", e)
			}
			return within(room, bd, bq)
		}
		d, e := drive.Weaken(m, q, speed, bus, most)
		least := d + 1
		if e == api.ErrLimit {
			least = -most
		} else if e != api.OK || d > 0 || d < -most || !fits(d) {
			t.Errorf("Weaken %v, %d, %d, %d, %d: %d, %d", m, q, speed, bus, most, d, e)
		}
		for x := least; x <= 0; x++ {
			if fits(x) {
				t.Errorf("Weaken %v, %d, %d, %d, %d: %d, %d, and %d is greater", m, q, speed, bus, most, d, e, x)
			}
		}
	}
}

// P6.11: great currents: the greatest one has the weakening that it is returned with, and no greater one has any that is possible.
func TestGreatStrongest(t *testing.T) {
	r := chance(17)
	some := 0
	for range 300 {
		most := drawInt(r, 0, pick[int64](r, 3000, 10000, mostAmp))
		m, speed, bus := drawField(r, most)
		q, d, e := drive.Strongest(m, speed, bus, most)
		possible := func(q int64) bool {
			d, e := drive.Weaken(m, q, speed, bus, most)
			return e == api.OK && d*d+q*q <= most*most
		}
		least := q + 1
		if e == api.ErrLimit {
			least = 0
		} else {
			some++
			if x, e2 := drive.Weaken(m, q, speed, bus, most); e != api.OK || e2 != api.OK || x != d || !possible(q) {
				t.Errorf("Strongest %v, %d, %d, %d: %d, %d, %d, with the weakening %d, %d", m, speed, bus, most, q, d, e, x, e2)
			}
		}
		for x := least; x <= min(most, least+3000); x++ {
			if possible(x) {
				t.Errorf("Strongest %v, %d, %d, %d: %d, %d, %d, and %d is greater", m, speed, bus, most, q, d, e, x)
			}
		}
		for range 300 {
			if x := drawInt(r, min(least, most), most); x >= least && possible(x) {
				t.Errorf("Strongest %v, %d, %d, %d: %d, %d, %d, and %d is greater", m, speed, bus, most, q, d, e, x)
			}
		}
	}
	if some < 50 {
		t.Errorf("only %d motors have a greatest current", some)
	}
}
