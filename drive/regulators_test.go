package drive_test

import (
	"math"
	"math/rand"
	"testing"

	"coulomb/api"
	"coulomb/drive"
)

const one = 65536 // a gain of a microvolt for a mA

func gains(p, i int64) api.Tuning { return api.Tuning{P: p, I: i} }

// P6.9: raw voltages at the ends of the span, and just outside, with errors in both directions.
func TestSomeRegulators(t *testing.T) {
	s := span(-120, 100)
	for _, x := range []struct {
		g             api.Tuning
		sum, wrong    int64
		voltage, next int64
	}{
		{gains(one, one), 50, 50, 100, 100}, {gains(one, one), 50, 51, 100, 50}, {gains(one, one), 50, 49, 99, 99},
		{gains(one, one), -50, -70, -120, -120}, {gains(one, one), -50, -71, -120, -50}, {gains(one, one), -50, -69, -119, -119},
		{gains(one, one), 500, -100, 100, 400}, {gains(one, one), 500, 0, 100, 500}, {gains(one, one), 500, 100, 100, 500}, {gains(one, one), 200, -100, 100, 100}, {gains(one, one), 201, -100, 100, 101},
		{gains(one, one), -500, 100, -120, -400}, {gains(one, one), -500, 0, -120, -500}, {gains(one, one), -500, -100, -120, -500},
		{gains(0, one), 0, 7, 0, 7}, {gains(one, 0), 3, 7, 10, 3}, {gains(0, 0), 5, 9, 5, 5}, {gains(0, 0), 500, -9, 100, 500},
		{gains(1, 1), 0, 65535, 0, 0}, {gains(1, 1), 0, 65536, 1, 1}, {gains(1, 1), 0, -1, -1, -1}, {gains(1, 1), 0, -65537, -2, -2}, {gains(0, 1), 500, -1, 100, 499}, {gains(0, 1), -500, 65535, -120, -500},
		{gains(1<<24, 0), 0, 1, 100, 0}, {gains(0, 1<<24), 0, -1, 0, -256}, {gains(0, 1<<24), 0, 2097152, 0, 536870912}, {gains(1<<24, 1<<24), 0, -2097152, -120, 0},
		{gains(0, one), mostSum, 1, 100, mostSum}, {gains(0, one), -mostSum, 1, -120, 1 - mostSum}, {gains(0, one), mostSum, -1, 100, mostSum - 1}, {gains(0, one), -mostSum, -1, -120, -mostSum},
	} {
		same(t, numbersOf(drive.Regulate(x.g, x.sum, x.wrong, s)), good(x.voltage, x.next), "Regulate", x)
	}
	wide := span(-quantities, quantities)
	for _, x := range []struct{ i, sum, wrong, voltage, next int64 }{
		{one, mostSum - 5, 5, mostSum - 5, mostSum}, {one, mostSum - 5, 6, mostSum - 5, mostSum}, {one, 5 - mostSum, -5, 5 - mostSum, -mostSum}, {one, 5 - mostSum, -6, 5 - mostSum, -mostSum},
		{1 << 24, mostSum, 2097152, mostSum, mostSum}, {1 << 24, -mostSum, -2097152, -mostSum, -mostSum}, {1 << 24, mostSum, -2097152, mostSum, 536870912},
	} {
		same(t, numbersOf(drive.Regulate(gains(0, x.i), x.sum, x.wrong, wide)), good(x.voltage, x.next), "Regulate", x)
	}
	same(t, numbersOf(drive.Regulate(gains(one, one), 7, 1, span(8, 8))), good(8, 8), "Regulate")
	same(t, numbersOf(drive.Regulate(gains(one, one), 8, 1, span(8, 8))), good(8, 8), "Regulate")
	same(t, numbersOf(drive.Regulate(gains(one, one), 8, 1, span(quantities, quantities))), good(quantities, 9), "Regulate")
}

// P6.9: gains, spans, sums and errors that are not possible; the first two come first.
func TestWildRegulators(t *testing.T) {
	check := func(e api.Errno, g api.Tuning, sum, wrong int64, s api.Span) {
		t.Helper()
		same(t, numbersOf(drive.Regulate(g, sum, wrong, s)), bad(e), "Regulate", g, sum, wrong, s)
	}
	for _, x := range outside(0, 1<<24) {
		check(api.ErrArg, gains(x, 0), 0, 0, span(0, 0))
		check(api.ErrArg, gains(0, x), 0, 0, span(0, 0))
		check(api.ErrArg, gains(x, x), mostSum+1, 0, span(0, 0))
	}
	for _, x := range append(wildNumbers(), quantities+1, -quantities-1) {
		check(api.ErrArg, gains(0, 0), 0, 0, span(min(x, 0), max(x, 0)))
		check(api.ErrArg, gains(0, 0), mostSum+1, 5000000, span(x, x))
	}
	check(api.ErrArg, gains(0, 0), 0, 0, span(1, 0))
	check(api.ErrArg, gains(0, 0), 0, 0, span(math.MinInt64, math.MaxInt64))
	for _, x := range beyond(mostSum) {
		check(api.ErrRange, gains(0, 0), x, 0, span(0, 0))
	}
	for _, x := range beyond(2 * mostAmp) {
		check(api.ErrRange, gains(0, 0), 0, x, span(0, 0))
	}
}

// drawGains draws possible gains.
func drawGains(r *rand.Rand) api.Tuning {
	return gains(drawFrom(r, 0, pick[int64](r, 0, 3*one, 1<<24)), drawFrom(r, 0, pick[int64](r, 0, 3*one, 1<<24)))
}

// P6.9, P6.17: drawn regulators, in the span and outside of it; what they promise.
func TestDrawnRegulators(t *testing.T) {
	r := chance(9)
	where := map[int]int{}
	for range 40000 {
		g, sum, wrong := drawGains(r), drawUpTo(r, mostSum), drawUpTo(r, 2*mostAmp)
		raw := quo(65536, g.P, wrong) + sum
		s := drawSpan(r, -quantities, quantities)
		if near := drawInt(r, -2, 2); r.Intn(2) == 0 {
			s = pick(r, span(raw-near, raw-near+drawInt(r, 0, 9)), span(raw-near-drawInt(r, 0, 9), raw-near))
		}
		voltage, next, e := drive.Regulate(g, sum, wrong, s)
		same(t, numbersOf(voltage, next, e), wantRegulate(g, sum, wrong, s), "Regulate", g, sum, wrong, s)
		if voltage < s.Lo || voltage > s.Hi || !within(mostSum, next) {
			t.Errorf("Regulate %v, %d, %d, %v: %d, %d, which is too far out", g, sum, wrong, s, voltage, next)
		}
		if raw > s.Hi && next > sum || raw < s.Lo && next < sum {
			t.Errorf("Regulate %v, %d, %d, %v: the sum grows farther out, to %d", g, sum, wrong, s, next)
		}
		switch {
		case raw > s.Hi:
			where[1]++
		case raw < s.Lo:
			where[-1]++
		default:
			where[0]++
		}
	}
	if min(where[-1], where[0], where[1]) < 2000 {
		t.Errorf("raw voltages are too seldom outside, or within: %v", where)
	}
}
