package drive_test

import (
	"math"
	"math/rand"
	"slices"
	"testing"

	"coulomb/api"
)

// The limits that the chapter names.
const (
	turn       = 65536
	mostBus    = 1 << 30
	mostAmp    = 1 << 20
	mostSpeed  = 1 << 14
	mostTorque = 1 << 36
	mostSum    = mostBus
	quantities = 1 << 40
)

// change changes a value that is made.
type change[T any] func(x *T)

// made makes a value of changes.
func made[T any](x T, changes ...change[T]) T {
	for _, c := range changes {
		c(&x)
	}
	return x
}

// plain is a motor without losses, with inductances of 100 microhenry and steps of 100 microseconds: 1 mV changes a current by 1 mA.
func plain(changes ...change[api.Motor]) api.Motor {
	return made(api.Motor{Ld: 100000, Lq: 100000, Flux: 10000, Poles: 2, Micro: 100, Spin: 1 << 20, Current: 10000, Fast: 100}, changes...)
}

// lively is a motor in which everything happens.
func lively(changes ...change[api.Motor]) api.Motor {
	return made(api.Motor{R: 53003, Ld: 190007, Lq: 310003, Flux: 20011, Poles: 3, Micro: 77, Spin: 150007, Drag: 301, Current: 90001, Fast: 601}, changes...)
}

// tiny is a motor of small numbers.
func tiny(changes ...change[api.Motor]) api.Motor {
	return made(api.Motor{Ld: 3, Lq: 3, Poles: 1, Micro: 1, Current: 1}, changes...)
}

func span(lo, hi int64) api.Span { return api.Span{Lo: lo, Hi: hi} }

// tolerances are 5 spans, by their ends; those that are left out are {0, 0}.
func tolerances(ends ...int64) []api.Span {
	l := make([]api.Span, 5)
	for i := 0; i < len(ends); i += 2 {
		l[i/2] = span(ends[i], ends[i+1])
	}
	return l
}

// offsets are 4 of them; those that are left out are 0.
func offsets(l ...int64) []int64 { return append(l, make([]int64, 4-len(l))...) }

// numbers is what a function returns that has up to two numbers as results.
type numbers struct {
	a, b int64
	e    api.Errno
}

func good(a, b int64) numbers                           { return numbers{a: a, b: b} }
func bad(e api.Errno) numbers                           { return numbers{e: e} }
func numberOf(a int64, e api.Errno) numbers             { return numbers{a: a, e: e} }
func numbersOf(a, b int64, e api.Errno) numbers         { return numbers{a, b, e} }
func badSpans(e api.Errno) spans                        { return spans{e: e} }
func spansOf(a, b api.Span, e api.Errno) spans          { return spans{a, b, e} }
func answerOf(is bool, e api.Errno) answer              { return answer{is, e} }
func motorOf(m api.Motor, e api.Errno) aMotor           { return aMotor{m, e} }
func stateOf(s api.Rotor, e api.Errno) aState           { return aState{s, e} }
func phasesOf(l [3]int64, e api.Errno) threeOf          { return threeOf{l: l, e: e} }
func dutiesOf(l [3]int64, is bool, e api.Errno) threeOf { return threeOf{l, is, e} }

// spans, answer, aMotor, aState and threeOf are what functions return that have two spans, and so on, as results.
type spans struct {
	a, b api.Span
	e    api.Errno
}
type answer struct {
	is bool
	e  api.Errno
}
type aMotor struct {
	m api.Motor
	e api.Errno
}
type aState struct {
	s api.Rotor
	e api.Errno
}
type threeOf struct {
	l     [3]int64
	isCut bool
	e     api.Errno
}

// same checks that a call returns what is wanted.
func same[T comparable](t *testing.T, got, want T, call string, arguments ...any) {
	t.Helper()
	if got != want {
		t.Errorf("%s %v: %v, not %v", call, arguments, got, want)
	}
}

// bound is a field of a motor, and its least and its greatest value.
type bound struct {
	field  *int64
	lo, hi int64
}

// boundsOf are the bounds of all fields of a motor.
func boundsOf(m *api.Motor) []bound {
	return []bound{
		{&m.R, 0, 1 << 20}, {&m.Ld, 1, 1 << 22}, {&m.Lq, 1, 1 << 22}, {&m.Flux, 0, 1 << 22}, {&m.Poles, 1, 16},
		{&m.Micro, 1, 1000}, {&m.Spin, 0, 1 << 20}, {&m.Drag, 0, 1 << 20}, {&m.Current, 1, 1 << 20}, {&m.Fast, 0, 1 << 14},
	}
}

// edgeMotors are valid: one field, or all fields, are at a bound, or just within.
func edgeMotors() []api.Motor {
	least, most := api.Motor{}, api.Motor{}
	for i, b := range boundsOf(&least) {
		*b.field = b.lo
		*boundsOf(&most)[i].field = b.hi
	}
	l := []api.Motor{least, most, plain(), lively(), tiny()}
	for i := range boundsOf(&least) {
		for _, m := range []api.Motor{plain(), least, most} {
			b := boundsOf(&m)[i]
			for _, x := range []int64{b.lo, b.lo + 1, b.hi - 1, b.hi} {
				*b.field = x
				l = append(l, m)
			}
		}
	}
	return l
}

// wildMotors are not valid: one field is beyond a bound, or all are.
func wildMotors() []api.Motor {
	l := []api.Motor{{}}
	for i := range boundsOf(&api.Motor{}) {
		m := lively()
		b := boundsOf(&m)[i]
		for _, x := range append(wildNumbers(), b.lo-1, b.hi+1, -b.hi) {
			*b.field = x
			if x < b.lo || x > b.hi {
				l = append(l, m)
			}
		}
	}
	return l
}

// wildNumbers are beyond every limit.
func wildNumbers() []int64 {
	return []int64{math.MinInt64, math.MinInt64 + 1, -1 << 62, -1 << 41, -quantities - 1, quantities + 1, 1 << 41, 1 << 62, math.MaxInt64 - 1, math.MaxInt64}
}

// beyond are numbers whose amount is greater than a limit.
func beyond(limit int64) []int64 { return outside(-limit, limit) }

// outside are numbers that are not from lo to hi: also some that differ from possible ones by 2^32.
func outside(lo, hi int64) []int64 {
	l := append(wildNumbers(), lo-1, hi+1, lo-1<<32, hi+1<<32, -1<<32, 1<<32)
	return slices.DeleteFunc(l, func(x int64) bool { return lo <= x && x <= hi })
}

// edgesUpTo are numbers of an amount up to a limit: at it, just within, and near to 0.
func edgesUpTo(limit int64) []int64 {
	return []int64{-limit, -limit + 1, -limit / 2, -12347, -3, -2, -1, 0, 1, 2, 3, 12347, limit / 2, limit - 1, limit}
}

// wildTolerances are no 5 valid spans.
func wildTolerances() [][]api.Span {
	l := [][]api.Span{nil, {}, tolerances()[:4], append(tolerances(), api.Span{}), make([]api.Span, 8), make([]api.Span, 9), make([]api.Span, 100)}
	for i := range 5 {
		for _, s := range []api.Span{span(1, 0), span(0, -1), span(-quantities-1, 0), span(0, quantities+1), span(math.MinInt64, math.MaxInt64), span(math.MaxInt64, math.MinInt64), span(math.MinInt64, math.MinInt64)} {
			tol := tolerances()
			tol[i] = s
			l = append(l, tol)
		}
	}
	return l
}

// chance draws the same numbers in each run.
func chance(seed int64) *rand.Rand { return rand.New(rand.NewSource(seed)) }

// pick draws one of some values.
func pick[T any](r *rand.Rand, l ...T) T { return l[r.Intn(len(l))] }

// drawInt draws a number from lo to hi.
func drawInt(r *rand.Rand, lo, hi int64) int64 { return lo + r.Int63n(hi-lo+1) }

// drawFrom draws a number from lo to hi: an end, one that is near to 0, one of a size that is drawn first, or any one.
func drawFrom(r *rand.Rand, lo, hi int64) int64 {
	size := int64(1) << r.Intn(42)
	x := pick(r, lo, hi, drawInt(r, -3, 3), drawInt(r, -size, size), drawInt(r, -size, size), drawInt(r, lo, hi), drawInt(r, lo, hi))
	return min(max(x, lo), hi)
}

// drawUpTo draws a number of an amount up to a limit.
func drawUpTo(r *rand.Rand, limit int64) int64 { return drawFrom(r, -limit, limit) }

// drawSpan draws a span with ends from lo to hi: often a narrow one near to 0, if that is possible.
func drawSpan(r *rand.Rand, lo, hi int64) api.Span {
	near := pick[int64](r, 0, 0, 2, 100, 1000, quantities)
	lo, hi = max(lo, min(hi, -near)), min(hi, max(lo, near))
	a, b := drawFrom(r, lo, hi), drawFrom(r, lo, hi)
	return span(min(a, b), max(a, b))
}

// drawIn draws a number of a span, often an end.
func drawIn(r *rand.Rand, s api.Span) int64 { return pick(r, s.Lo, s.Hi, drawInt(r, s.Lo, s.Hi)) }

// drawAny draws a value, mostly the good one.
func drawAny[T any](r *rand.Rand, good T, wild ...T) T {
	if r.Intn(8) > 0 {
		return good
	}
	return pick(r, wild...)
}

// drawMotor draws a valid motor: a usual one, one of small numbers, or any one.
func drawMotor(r *rand.Rand) api.Motor {
	switch r.Intn(3) {
	case 0:
		return drawUsual(r)
	case 1:
		return drawTiny(r)
	}
	var m api.Motor
	for _, b := range boundsOf(&m) {
		*b.field = drawFrom(r, b.lo, b.hi)
	}
	return m
}

// drawUsual draws a motor as there are some.
func drawUsual(r *rand.Rand) api.Motor {
	return api.Motor{
		R: drawInt(r, 0, 100000), Ld: drawInt(r, 50000, 400000), Lq: drawInt(r, 50000, 400000), Flux: drawInt(r, 0, 50000), Poles: drawInt(r, 1, 8),
		Micro: drawInt(r, 10, 200), Spin: drawInt(r, 0, 1<<18), Drag: drawInt(r, 0, 1000), Current: drawInt(r, 1000, 300000), Fast: drawInt(r, 0, 1000),
	}
}

// drawTiny draws a motor of small numbers.
func drawTiny(r *rand.Rand) api.Motor {
	return api.Motor{
		R: drawInt(r, 0, 3000), Ld: drawInt(r, 1, 30), Lq: drawInt(r, 1, 30), Flux: drawInt(r, 0, 3), Poles: drawInt(r, 1, 16),
		Micro: drawInt(r, 1, 4), Spin: drawFrom(r, 0, 1<<20), Drag: drawInt(r, 0, 50), Current: drawInt(r, 1, 8), Fast: drawInt(r, 0, 6),
	}
}

// drawTolerances draws tolerances that are possible for a motor.
func drawTolerances(r *rand.Rand, m api.Motor) []api.Span {
	var l []api.Span
	for _, b := range boundsOf(&m)[:4] {
		l = append(l, drawSpan(r, b.lo-*b.field, b.hi-*b.field))
	}
	return append(l, drawSpan(r, -mostSpeed, mostSpeed))
}

// drawOffsets draws offsets within tolerances.
func drawOffsets(r *rand.Rand, tol []api.Span) []int64 {
	var l []int64
	for _, s := range tol[:4] {
		l = append(l, drawIn(r, s))
	}
	return l
}

// drawBus draws a bus voltage.
func drawBus(r *rand.Rand) int64 { return drawFrom(r, 1, mostBus) }

// drawState draws a valid state, with currents up to a limit, and a speed.
func drawState(r *rand.Rand, limit, speed int64) api.Rotor {
	s := api.Rotor{D: drawUpTo(r, limit), Q: drawUpTo(r, limit), Angle: drawFrom(r, 0, turn-1)}
	s.Speed = min(1000*speed+drawInt(r, 0, 999), 1000*mostSpeed)
	return s
}
