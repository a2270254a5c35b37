package drive_test

import (
	"math/rand"
	"testing"

	"coulomb/api"
	"coulomb/drive"
)

// P6.7: the room, rounded down.
func TestRoom(t *testing.T) {
	for bus, want := range map[int64]int64{1: 0, 2: 0, 3: 1, 4: 1, 5: 2, 65535: 26754, 65536: 26755, 2000000: 816497, mostBus - 1: 438353919, mostBus: 438353920} {
		same(t, numberOf(drive.Room(bus)), good(want, 0), "Room", bus)
	}
	r := chance(6)
	for range 5000 {
		bus := drawBus(r)
		same(t, numberOf(drive.Room(bus)), good(roomOf(bus), 0), "Room", bus)
	}
	for _, bus := range outside(1, mostBus) {
		same(t, numberOf(drive.Room(bus)), bad(api.ErrRange), "Room", bus)
	}
}

// P6.7: allowed voltages of a motor that is as it should be: the currents at the limit in both directions, and between.
func TestSomeAllowed(t *testing.T) {
	for _, x := range []struct {
		d, q, speed int64
		a, b        api.Span
	}{
		{0, 0, 0, span(-10000000, 10000999), span(-10000000, 10000999)},
		{4000, 0, 100, span(-14000000, 6000999), span(-8960000, 11040999)},
		{10000, -10000, 0, span(-20000000, 999), span(0, 20000999)},
		{-10000, 10000, 0, span(0, 20000999), span(-20000000, 999)},
		{10000, 10000, 100, span(-20100000, -99001), span(-18900000, 1100999)},
		{-10000, -10000, 100, span(100000, 20100999), span(900000, 20900999)},
		{10000, 10000, -100, span(-19900000, 100999), span(-21100000, -1099001)},
		{1, 0, -1, span(-10001000, 9999999), span(-10010000-1, 9990999-1)}, // 0.1 microvolt of the turning inductance is rounded down to -1
	} {
		same(t, spansOf(drive.Allowed(plain(), tolerances(), x.d, x.q, x.speed)), spans{a: x.a, b: x.b}, "Allowed", x)
	}
}

// P6.7: each tolerance widens what has to be kept out, on both sides; the least inductance counts.
func TestSomeTolerances(t *testing.T) {
	lossy := plain(func(m *api.Motor) { m.R = 1500 })
	flux, wrong := []int64{0, 0, 0, 0, 0, 0, -1000, 3000}, []int64{0, 0, 0, 0, 0, 0, 0, 0, -10, 20}
	for _, x := range []struct {
		m           api.Motor
		tol         []api.Span
		d, q, speed int64
		a, b        api.Span
	}{
		{plain(), tolerances(0, 2000), 1000, -1000, 0, span(-11000000+2000, 9000999), span(-9000000, 11000999-2000)},
		{lossy, tolerances(-1500, -500), -1000, 3000, 0, span(-9000000, 11000999-1000), span(-13000000+3000, 7000999)},
		{plain(), tolerances(0, 0, -50000, 30000), 1000, 0, 100, span(-5500000, 4500499), span(-10000000+1013000, 10000999+1005000)},
		{plain(), tolerances(0, 0, 0, 0, -50000, 30000), 0, 1000, 100, span(-10000000-5000, 10000999-13000), span(-5500000+1000000, 4500499+1000000)},
		{plain(), tolerances(flux...), 0, 0, 100, span(-10000000, 10000999), span(-10000000+1300000, 10000999+900000)},
		{plain(), tolerances(flux...), 0, 0, -100, span(-10000000, 10000999), span(-10000000-900000, 10000999-1300000)},
		{plain(), tolerances(wrong...), 0, 0, 100, span(-10000000, 10000999), span(-10000000+1200000, 10000999+900000)},
		{plain(), tolerances(wrong...), 0, 0, 0, span(-10000000, 10000999), span(-10000000+200000, 10000999-100000)},
		{plain(), tolerances(0, 0, 0, 0, 0, 0, -1000, 3000, 5, 20), 0, 0, 0, span(-10000000, 10000999), span(-10000000+260000, 10000999+45000)},
		{plain(), tolerances(wrong...), 5000, -3000, 0, span(-15000000+6000, 5000999-3000), span(-7000000+10000+200000, 13000999-5000-100000)},
	} {
		same(t, spansOf(drive.Allowed(x.m, x.tol, x.d, x.q, x.speed)), spans{a: x.a, b: x.b}, "Allowed", x)
	}
}

// P6.7: spans that have just one number, and that have none any more.
func TestNoneAllowed(t *testing.T) {
	stiff := tiny(func(m *api.Motor) { m.Ld, m.Lq, m.Micro, m.R = 1, 1, 1000, 1000 })
	for _, x := range []struct {
		tol  []api.Span
		d, q int64
		want spans
	}{
		{tolerances(), 0, 0, spans{}},
		{tolerances(), 1, -1, spans{a: span(1, 1), b: span(-1, -1)}},
		{tolerances(0, 999), 1, 0, spans{a: span(1, 1)}}, // 1.999 microvolt are 1, and -1.999 are -2
		{tolerances(0, 999), 0, 1, spans{b: span(1, 1)}},
		{tolerances(0, 999), -1, 0, badSpans(api.ErrLimit)},
		{tolerances(0, 999), 0, -1, badSpans(api.ErrLimit)},
		{tolerances(0, 1000), 1, 0, badSpans(api.ErrLimit)},
		{tolerances(0, 1000), 0, 1, badSpans(api.ErrLimit)},
		{tolerances(0, 0, 0, 0, 0, 0, 0, 1), 0, 0, spans{}},
		{tolerances(0, 0, 0, 0, 0, 0, 1, 1, -1, 0), 0, 0, badSpans(api.ErrLimit)},
		{tolerances(0, 0, 0, 0, 0, 0, 1, 1, -1, -1), 0, 0, spans{b: span(-1, -1)}},
	} {
		same(t, spansOf(drive.Allowed(stiff, x.tol, x.d, x.q, 0)), x.want, "Allowed", x)
	}
}

// drawSpeed draws a speed that a motor may have.
func drawSpeed(r *rand.Rand, m api.Motor) int64 { return drawUpTo(r, m.Fast) }

// P6.7: drawn motors with tolerances.
func TestDrawnAllowed(t *testing.T) {
	r := chance(7)
	some, none := 0, 0
	for range 20000 {
		m := drawMotor(r)
		tol, d, q, speed := drawTolerances(r, m), drawUpTo(r, m.Current), drawUpTo(r, m.Current), drawSpeed(r, m)
		want := wantAllowed(m, tol, d, q, speed)
		same(t, spansOf(drive.Allowed(m, tol, d, q, speed)), want, "Allowed", m, tol, d, q, speed)
		if want.e == api.OK {
			some++
		} else {
			none++
		}
	}
	if min(some, none) < 2000 {
		t.Errorf("%d motors have allowed voltages, and %d have none", some, none)
	}
}

// possible are tolerances that are possible only just, or just not: by a span, and whether it is possible there.
type possible struct {
	i  int
	s  api.Span
	is bool
}

// P6.7, P6.8: tolerances that are possible only just, with ends below and above 0.
func TestPossibleTolerances(t *testing.T) {
	m := lively()
	var l []possible
	for i, b := range boundsOf(&m)[:4] {
		lo, hi := b.lo-*b.field, b.hi-*b.field
		l = append(l, possible{i, span(lo, lo), true}, possible{i, span(hi, hi), true}, possible{i, span(lo, hi), true}, possible{i, span(lo, 0), true}, possible{i, span(0, hi), true}, possible{i, span(-3, -2), true}, possible{i, span(2, 3), true},
			possible{i, span(lo-1, 0), false}, possible{i, span(0, hi+1), false}, possible{i, span(lo-1, lo-1), false}, possible{i, span(hi+1, hi+1), false}, possible{i, span(-quantities, 0), false}, possible{i, span(0, quantities), false}, possible{i, span(-quantities, quantities), false})
	}
	const s = mostSpeed
	for _, x := range []api.Span{span(-s, s), span(-s, -s), span(s, s), span(-3, -2), span(2, 3)} {
		l = append(l, possible{4, x, true})
	}
	for _, x := range []api.Span{span(-s-1, s), span(-s, s+1), span(-s-1, -s-1), span(s+1, s+1), span(-quantities, 0), span(0, quantities)} {
		l = append(l, possible{4, x, false})
	}
	for _, x := range l {
		tol := tolerances()
		tol[x.i] = x.s
		if _, _, e := drive.Allowed(m, tol, 0, 0, 0); (e == api.ErrRange) == x.is {
			t.Errorf("Allowed with the tolerances %v: %d", tol, e)
		}
		if _, e := drive.Holds(m, tol, 1000000); (e == api.ErrRange) == x.is {
			t.Errorf("Holds with the tolerances %v: %d", tol, e)
		}
		same(t, spansOf(drive.Allowed(m, tol, 5, -7, 11)), wantAllowed(m, tol, 5, -7, 11), "Allowed", tol)
		same(t, answerOf(drive.Holds(m, tol, mostBus)), wantHolds(m, tol, mostBus), "Holds", tol)
	}
}

// P6.7: currents at the limit and just beyond, and the measured speed at Fast and just beyond; what comes first decides.
func TestWildAllowed(t *testing.T) {
	m := lively()
	check := func(e api.Errno, m api.Motor, tol []api.Span, d, q, speed int64) {
		t.Helper()
		same(t, spansOf(drive.Allowed(m, tol, d, q, speed)), badSpans(e), "Allowed", m, tol, d, q, speed)
	}
	tooFar := tolerances(-quantities, 0)
	for _, x := range beyond(m.Current) {
		check(api.ErrRange, m, tolerances(), x, 0, 0)
		check(api.ErrRange, m, tolerances(), 0, x, 0)
		check(api.ErrArg, m, tolerances()[:4], x, x, x)
		check(api.ErrArg, api.Motor{}, tolerances(), x, x, x)
	}
	for _, x := range beyond(m.Fast) {
		check(api.ErrRange, m, tolerances(), 0, 0, x)
	}
	for _, tol := range wildTolerances() {
		check(api.ErrArg, m, tol, 0, 0, 0)
		check(api.ErrArg, m, tol, m.Current+1, 0, m.Fast+1)
	}
	for _, wild := range wildMotors() {
		check(api.ErrArg, wild, tolerances(), 0, 0, 0)
		check(api.ErrArg, wild, tooFar, 0, 0, 0)
	}
	check(api.ErrArg, m, append(tooFar[:4:4], span(1, 0)), 0, 0, 0) // that a span is valid comes before what is possible
	stiff := tiny(func(m *api.Motor) { m.Ld, m.Lq, m.Micro = 1, 1, 1000 })
	check(api.ErrLimit, stiff, tolerances(0, 1000000), 1, 1, 0)
	check(api.ErrRange, stiff, tolerances(0, 1000000), 1, 2, 0)
	check(api.ErrRange, stiff, tolerances(0, 1000000), 1, 1, 1)
	for _, d := range []int64{-m.Current, m.Current} {
		for _, speed := range []int64{-m.Fast, m.Fast} {
			same(t, spansOf(drive.Allowed(m, tolerances(), d, -d, speed)), wantAllowed(m, tolerances(), d, -d, speed), "Allowed", d, speed)
		}
	}
}

// P6.8: the least bus voltage with which a motor holds, and what keeps it from holding with any one.
func TestSomeHolds(t *testing.T) {
	with := func(ld, lq, flux, fast int64) api.Motor {
		return tiny(func(m *api.Motor) { m.Ld, m.Lq, m.Flux, m.Fast = ld, lq, flux, fast })
	}
	lossy := func(x int64) api.Motor { return tiny(func(m *api.Motor) { m.R = x }) }
	wrong := func(lo, hi int64) []api.Span { return tolerances(0, 0, 0, 0, 0, 0, 0, 0, lo, hi) }
	const never = 0
	for _, x := range []struct {
		m   api.Motor
		tol []api.Span
		bus int64
	}{
		{tiny(), tolerances(), 5}, {with(2, 3, 0, 0), tolerances(), never}, {with(3, 2, 0, 0), tolerances(), never}, {with(4, 4, 0, 0), tolerances(), 5},
		{lossy(1), tolerances(), 8}, {lossy(1000), tolerances(), 8}, {lossy(1001), tolerances(), 10},
		{with(4, 4, 0, 0), tolerances(0, 1), 8}, {with(3, 4, 0, 0), tolerances(0, 1), never}, {with(4, 3, 0, 0), tolerances(0, 1), never}, {lossy(1), tolerances(-1, -1), 5}, {lossy(1), tolerances(1, 1), 8},
		{with(3, 3, 0, 1), tolerances(), 8}, {with(3, 3, 1, 1), tolerances(), 10}, {with(3, 3, 1, 0), wrong(-1, -1), 10}, {with(3, 3, 1, 0), wrong(1, 1), 10}, {with(3, 3, 1, 1), wrong(-2, -2), 15}, {with(3, 3, 1, 1), wrong(2, 2), 15},
		{with(4, 4, 0, 0), wrong(0, 1), 8}, {with(4, 4, 0, 0), wrong(-1, 0), 8}, {with(3, 4, 0, 0), wrong(0, 1), never}, {with(4, 3, 0, 0), wrong(0, 1), never},
		{with(4, 4, 1, 0), wrong(0, 1), 10}, {with(4, 3, 1, 0), wrong(0, 1), never}, {with(4, 4, 2, 0), wrong(0, 1), never}, {with(4, 5, 2, 0), wrong(0, 1), 13},
		{with(3, 4, 0, 1), tolerances(0, 0, 0, 0, 0, 0, 0, 1), 10}, {with(3, 3, 0, 1), tolerances(0, 0, 0, 0, 0, 0, 0, 1), never},
		{with(3, 4, 0, 1), tolerances(0, 0, 0, 1), 8}, {with(3, 3, 0, 1), tolerances(0, 0, 0, 1), never}, {with(4, 3, 0, 1), tolerances(0, 0, 0, 0, 0, 1), 8}, {with(3, 3, 0, 1), tolerances(0, 0, 0, 0, 0, 1), never},
		{with(4, 3, 0, 0), tolerances(0, 0, -1, 0), 5}, {with(3, 3, 0, 0), tolerances(0, 0, -1, 0), never}, {with(3, 3, 0, 0), tolerances(0, 0, 0, 0, -1, 0), never},
		{plain(), tolerances(), 2694440},
	} {
		for _, bus := range []int64{1, 4, max(1, x.bus-1), max(1, x.bus), x.bus + 1, 1000000000, mostBus} {
			want := x.bus != never && bus >= x.bus
			same(t, answerOf(drive.Holds(x.m, x.tol, bus)), answer{is: want}, "Holds", x, bus)
		}
	}
}

// P6.8: drawn motors, with a room that is just enough, and just not; the other conditions are often met only just, too.
func TestDrawnHolds(t *testing.T) {
	r := chance(8)
	byD, byQ, seen := map[int64]int{}, map[int64]int{}, map[bool]int{}
	for range 60000 {
		m := pick(r, drawMotor, drawTiny, drawTiny)(r)
		tol := drawTolerances(r, m)
		room, haveD, needD, haveQ, needQ := needs(m, tol)
		if haveQ >= needQ {
			byD[haveD-needD]++
		}
		if haveD >= needD {
			byQ[haveQ-needQ]++
		}
		least := min(upQuo(26755, room, 65536), mostBus)
		for _, bus := range []int64{max(1, least-1), least, drawBus(r)} {
			want := wantHolds(m, tol, bus)
			same(t, answerOf(drive.Holds(m, tol, bus)), want, "Holds", m, tol, bus)
			seen[want.is]++
		}
	}
	if min(byD[-1], byD[0], byD[1], byQ[-1], byQ[0], byQ[1]) < 50 {
		t.Errorf("the conditions are met, or not met, only just too seldom: %v, %v", byD, byQ)
	}
	if min(seen[false], seen[true]) < 2000 {
		t.Errorf("motors hold too seldom, or too often: %v", seen)
	}
}

// P6.8: a bus voltage that is not possible, and what comes before it.
func TestWildHolds(t *testing.T) {
	m := lively()
	for _, bus := range outside(1, mostBus) {
		same(t, answerOf(drive.Holds(m, tolerances(), bus)), answer{e: api.ErrRange}, "Holds", bus)
		same(t, answerOf(drive.Holds(m, tolerances()[:4], bus)), answer{e: api.ErrArg}, "Holds", bus)
		same(t, answerOf(drive.Holds(api.Motor{}, tolerances(), bus)), answer{e: api.ErrArg}, "Holds", bus)
	}
	for _, tol := range wildTolerances() {
		same(t, answerOf(drive.Holds(m, tol, 1000)), answer{e: api.ErrArg}, "Holds", tol)
	}
	for _, wild := range wildMotors() {
		same(t, answerOf(drive.Holds(wild, tolerances(-quantities, 0), 1000)), answer{e: api.ErrArg}, "Holds", wild)
	}
}
