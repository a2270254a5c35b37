package drive_test

import (
	"math"
	"math/rand"
	"reflect"
	"slices"
	"testing"

	"coulomb/api"
	"coulomb/drive"
)

// cloneOf is a play that shares no memory with p.
func cloneOf(p played) played {
	p.offsets, p.tol, p.l, p.errs = slices.Clone(p.offsets), slices.Clone(p.tol), slices.Clone(p.l), slices.Clone(p.errs)
	return p
}

// spoil changes all elements of a list, and what lies behind its end if there is room.
func spoil[T any](l []T, wrong T) {
	for i := range l[:cap(l)] {
		l[:cap(l)][i] = wrong
	}
}

// R5: no argument is changed or kept, and no results share memory.
func TestListsShareNothing(t *testing.T) {
	p := flawless()
	given := cloneOf(p)
	most := []int64{2, 9, 9}
	drive.Allowed(p.m, p.tol, 5, -5, 5)
	drive.Holds(p.m, p.tol, p.bus)
	drive.Apply(p.m, p.offsets)
	first, _ := run(p)
	again, _ := run(p)
	shares, _ := drive.Shares(10, most)
	others, _ := drive.Shares(10, most)
	all, _ := drive.Shares(100, most)
	if !reflect.DeepEqual(p, given) || !slices.Equal(most, []int64{2, 9, 9}) {
		t.Errorf("an argument is changed: %v, %v", p, most)
	}
	want, _ := wantPlay(p)
	spoil(first, api.Rotor{D: -7})
	spoil(shares, -7)
	spoil(all, -7)
	if !slices.Equal(again, want) || !slices.Equal(others, []int64{2, 4, 4}) || !slices.Equal(most, []int64{2, 9, 9}) || !reflect.DeepEqual(p, given) {
		t.Errorf("results share memory, with one another, or with an argument: %v, %v, %v", again, others, most)
	}
	spoil(p.offsets, 1)
	spoil(p.l, api.Order{})
	spoil(p.errs, 9)
	spoil(most, 0)
	if !slices.Equal(again, want) || !slices.Equal(others, []int64{2, 4, 4}) {
		t.Errorf("results share memory with an argument: %v, %v", again, others)
	}
}

// R5, R10: behind the end of a list that is given nothing is read or written.
func TestListsWithRoom(t *testing.T) {
	most := []int64{2, 9, 9, 4, 5}
	for n := range 6 {
		l, e := drive.Shares(10, most[:n])
		want, wantError := drive.Shares(10, slices.Clone(most[:n]))
		if !slices.Equal(l, want) || e != wantError || !slices.Equal(most, []int64{2, 9, 9, 4, 5}) {
			t.Errorf("Shares of %d wheels: %v, %d, not %v, %d; the list is %v", n, l, e, want, wantError, most)
		}
	}
	tol := tolerances(0, 1, 2, 3, 4, 5, 6, 7, 8, 9)
	for n := range 5 {
		if _, e := drive.Holds(plain(), tol[:n], 1); e != api.ErrArg {
			t.Errorf("Holds with %d spans: %d", n, e)
		}
		if _, e := drive.Apply(plain(), []int64{0, 0, 0, 0, 0}[:n]); (e == api.OK) != (n == 4) {
			t.Errorf("Apply with %d offsets: %d", n, e)
		}
	}
}

// R3: nil and empty lists are the same.
func TestNilAndEmpty(t *testing.T) {
	for _, none := range [][]int64{nil, {}} {
		checkShares(t, 5, none, shared{e: api.ErrMany})
		same(t, motorOf(drive.Apply(plain(), none)), aMotor{e: api.ErrArg}, "Apply", none)
		for _, l := range [][]api.Order{nil, {}} {
			if states, e := run(play(func(p *played) { p.l, p.errs = l, none })); len(states) != 0 || e != api.OK {
				t.Errorf("Play: %v, %d", states, e)
			}
			if states, e := run(play(func(p *played) { p.l, p.errs, p.offsets = l, none, none })); len(states) != 0 || e != api.ErrArg {
				t.Errorf("Play: %v, %d", states, e)
			}
		}
	}
	for _, none := range [][]api.Span{nil, {}} {
		same(t, spansOf(drive.Allowed(plain(), none, 0, 0, 0)), badSpans(api.ErrArg), "Allowed", none)
		same(t, answerOf(drive.Holds(plain(), none, 1)), answer{e: api.ErrArg}, "Holds", none)
		if states, e := run(play(func(p *played) { p.tol = none })); len(states) != 0 || e != api.ErrArg {
			t.Errorf("Play: %v, %d", states, e)
		}
	}
}

// drawNumber draws any number: one of an edge, or one of a size that is drawn first.
func drawNumber(r *rand.Rand) int64 {
	if r.Intn(4) == 0 {
		return pick[int64](r, math.MinInt64, math.MinInt64+1, -quantities-1, -quantities, -1, 0, 1, quantities, quantities+1, math.MaxInt64-1, math.MaxInt64)
	}
	size := int64(1) << r.Intn(63)
	return r.Int63n(size) - pick(r, 0, size)
}

// drawWild draws a play with some numbers that may have any value.
func drawWild(r *rand.Rand) played {
	p := drawPlay(r, 4)
	for _, b := range boundsOf(&p.m) {
		*b.field = drawMost(r, *b.field)
	}
	for i := range p.tol {
		p.tol[i] = span(drawMost(r, p.tol[i].Lo), drawMost(r, p.tol[i].Hi))
	}
	for i := range p.offsets {
		p.offsets[i] = drawMost(r, p.offsets[i])
	}
	for i := range p.l {
		p.errs[i] = drawMost(r, p.errs[i])
		p.l[i] = api.Order{D: drawMost(r, p.l[i].D), Q: drawMost(r, p.l[i].Q), Load: drawMost(r, p.l[i].Load)}
	}
	p.g[0].P, p.g[1].I, p.bus = drawMost(r, p.g[0].P), drawMost(r, p.g[1].I), drawMost(r, p.bus)
	p.s = api.Rotor{D: drawMost(r, p.s.D), Q: drawMost(r, p.s.Q), Speed: drawMost(r, p.s.Speed), Angle: drawMost(r, p.s.Angle)}
	return p
}

// drawMost draws a number, nearly always the good one.
func drawMost(r *rand.Rand, good int64) int64 {
	if r.Intn(60) > 0 {
		return good
	}
	return drawNumber(r)
}

// P1, R2, R6, R10: for any arguments, all functions return what the chapter says, and so again.
func TestAnyArguments(t *testing.T) {
	r := chance(20)
	for range 10000 {
		p := drawWild(r)
		checkPlay(t, p)
		checkPlay(t, p)
		x := func(good int64) int64 { return drawMost(r, good) }
		d, q, speed, vd, vq, most := x(drawUpTo(r, min(max(1, p.m.Current), mostAmp))), x(5), x(p.m.Fast), x(1000), x(-1000), x(30)
		for range 2 {
			same(t, drive.Check(p.m) == api.OK, isMotor(p.m), "Check", p.m)
			same(t, numberOf(drive.Torque(p.m, d, q)), wantTorque(p.m, d, q), "Torque", p.m, d, q)
			same(t, numbersOf(drive.Inner(p.m, d, q, speed)), wantInner(p.m, d, q, speed), "Inner", p.m, d, q, speed)
			same(t, stateOf(drive.Step(p.m, p.s, vd, vq, d)), wantStep(p.m, p.s, vd, vq, d), "Step", p.m, p.s, vd, vq, d)
			same(t, motorOf(drive.Apply(p.m, p.offsets)), wantApply(p.m, p.offsets), "Apply", p.m, p.offsets)
			same(t, spansOf(drive.Allowed(p.m, p.tol, d, q, speed)), wantAllowed(p.m, p.tol, d, q, speed), "Allowed", p.m, p.tol, d, q, speed)
			same(t, answerOf(drive.Holds(p.m, p.tol, p.bus)), wantHolds(p.m, p.tol, p.bus), "Holds", p.m, p.tol, p.bus)
			same(t, numbersOf(drive.Regulate(p.g[0], vd, q, p.tol[0])), wantRegulate(p.g[0], vd, q, p.tol[0]), "Regulate", p.g[0], vd, q, p.tol[0])
			if most <= 30 || most > mostAmp {
				same(t, numberOf(drive.Weaken(p.m, q, speed, p.bus, most)), wantWeaken(p.m, q, speed, p.bus, most), "Weaken", p.m, q, speed, p.bus, most)
			}
			same(t, numbersOf(drive.Blend(d, p.tol[4], most)), wantBlend(d, p.tol[4], most), "Blend", d, p.tol[4], most)
		}
	}
}

// P1, R2, R6, R10: the same for the transforms, the greatest current and the shares.
func TestAnyTransforms(t *testing.T) {
	r := chance(21)
	for range 10000 {
		a, b, c := drawNumber(r), drawNumber(r), drawNumber(r)
		sin, e := drive.Sin(a)
		cos, e2 := drive.Cos(a)
		if want := isAngle(a); (e == api.OK) != want || (e2 == api.OK) != want || !want && (sin != 0 || cos != 0) {
			t.Errorf("Sin and Cos %d: %d, %d, %d, %d", a, sin, e, cos, e2)
		}
		same(t, numbersOf(drive.Two(a, b, c)), wantTwo(a, b, c), "Two", a, b, c)
		same(t, numbersOf(drive.TurnTo(a, b, c)), wantTurnTo(a, b, c), "TurnTo", a, b, c)
		same(t, numbersOf(drive.TurnBack(a, b, c)), wantTurnBack(a, b, c), "TurnBack", a, b, c)
		same(t, phasesOf(drive.Phases(a, b)), wantPhases(a, b), "Phases", a, b)
		same(t, dutiesOf(drive.Duties([3]int64{a, b, 5}, c)), wantDuties([3]int64{a, b, 5}, c), "Duties", a, b, c)
		if e := fieldError(lively(), a, b, c); e != api.OK {
			same(t, numbersOf(drive.Strongest(lively(), a, b, c)), bad(e), "Strongest", a, b, c)
		} else {
			same(t, numbersOf(drive.Strongest(lively(), a, b, c)), numbersOf(drive.Strongest(lively(), a, b, c)), "Strongest", a, b, c)
		}
		l, e := drive.Shares(a, []int64{b, c})
		if want := min(a, b, c) >= 0 && max(a, b, c) <= mostTorque; (e == api.OK) != want || !want && (len(l) > 0 || e != api.ErrRange) {
			t.Errorf("Shares %d, %d, %d: %v, %d", a, b, c, l, e)
		}
	}
}
