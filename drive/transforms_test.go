package drive_test

import (
	"math/rand"
	"testing"

	"coulomb/api"
	"coulomb/drive"
)

// wildAngles are no angles.
func wildAngles() []int64 { return outside(0, 65535) }

// edgeAngles are the ends, and the quarter turns with their neighbours.
func edgeAngles() []int64 {
	return []int64{0, 1, 8191, 8192, 16383, 16384, 16385, 24576, 32767, 32768, 32769, 49151, 49152, 49153, 65534, 65535}
}

// sine and cosine are those of an angle.
func sine(t *testing.T, a int64) int64 {
	t.Helper()
	x, e := drive.Sin(a)
	if e != api.OK {
		t.Fatalf("Sin %d: %d", a, e)
	}
	return x
}

func cosine(t *testing.T, a int64) int64 {
	t.Helper()
	x, e := drive.Cos(a)
	if e != api.OK {
		t.Fatalf("Cos %d: %d", a, e)
	}
	return x
}

// P6.1: the examples, quarter turns, and their neighbours.
func TestSomeSines(t *testing.T) {
	for _, x := range [][3]int64{
		{0, 0, 16384}, {1, 1, 16383}, {8192, 11565, 11565}, {16383, 16383, 1}, {16384, 16384, 0}, {16385, 16383, -1}, {24576, 11565, -11565},
		{32767, 1, -16383}, {32768, 0, -16384}, {32769, -1, -16383}, {49151, -16383, -1}, {49152, -16384, 0}, {49153, -16383, 1}, {65535, -1, 16383},
	} {
		same(t, numberOf(drive.Sin(x[0])), good(x[1], 0), "Sin", x[0])
		same(t, numberOf(drive.Cos(x[0])), good(x[2], 0), "Cos", x[0])
	}
}

// P6.1: all angles, and numbers that are none.
func TestAllSines(t *testing.T) {
	for a := range int64(turn) {
		same(t, numberOf(drive.Sin(a)), good(sineOf(a), 0), "Sin", a)
		same(t, numberOf(drive.Cos(a)), good(cosineOf(a), 0), "Cos", a)
	}
	for _, a := range wildAngles() {
		same(t, numberOf(drive.Sin(a)), bad(api.ErrRange), "Sin", a)
		same(t, numberOf(drive.Cos(a)), bad(api.ErrRange), "Cos", a)
	}
}

// P6.13: what the sines promise of all angles.
func TestSinesAreOnACircle(t *testing.T) {
	const half = 16384
	for a := range int64(turn) {
		s, c := sine(t, a), cosine(t, a)
		if !within(half, s, c) || !within(1<<21, s*s+c*c-half*half) {
			t.Errorf("the sine and the cosine of %d: %d, %d", a, s, c)
		}
		if opposite := sine(t, (a+turn/2)%turn); opposite != -s {
			t.Errorf("the sine of %d is %d, and half a turn farther %d", a, s, opposite)
		}
	}
}

// P6.2: two currents of three.
func TestTwo(t *testing.T) {
	const most = mostBus
	for _, x := range [][3]int64{{1000, -500, -500}, {0, 0, 0}, {-7, 7, 0}, {0, -1, 1}, {1, 0, -1}, {-1, 0, 1}, {2, -1, -1}, {most, -most, 0}, {0, most, -most}, {-most, 0, most}, {most, 0, -most}, {1, most - 1, -most}, {-1, -most + 1, most}} {
		same(t, numbersOf(drive.Two(x[0], x[1], x[2])), wantTwo(x[0], x[1], x[2]), "Two", x)
	}
	for _, x := range []struct {
		in   [3]int64
		want numbers
	}{
		{[3]int64{1000, -500, -500}, good(1000, 0)}, {[3]int64{-7, 7, 0}, good(-7, 4)}, {[3]int64{0, -1, 1}, good(0, -2)}, {[3]int64{0, 1, -1}, good(0, 1)}, {[3]int64{0, most, -most}, good(0, 1239842816)},
		{[3]int64{1, 2, 3}, bad(api.ErrEqual)}, {[3]int64{1, 0, 0}, bad(api.ErrEqual)}, {[3]int64{0, 0, -1}, bad(api.ErrEqual)}, {[3]int64{most, most, most}, bad(api.ErrEqual)}, {[3]int64{most, -1, -most}, bad(api.ErrEqual)},
		{[3]int64{most + 1, -most, -1}, bad(api.ErrRange)}, {[3]int64{-1, most + 1, -most}, bad(api.ErrRange)}, {[3]int64{1, most, -most - 1}, bad(api.ErrRange)}, {[3]int64{-most - 1, 0, 0}, bad(api.ErrRange)},
	} {
		same(t, numbersOf(drive.Two(x.in[0], x.in[1], x.in[2])), x.want, "Two", x.in)
	}
	for _, wrong := range beyond(most) {
		for _, x := range [][3]int64{{wrong, 0, 0}, {0, wrong, 0}, {0, 0, wrong}, {wrong, -wrong, 0}, {0, wrong, -wrong}, {-wrong, 0, wrong}} {
			same(t, numbersOf(drive.Two(x[0], x[1], x[2])), bad(api.ErrRange), "Two", x)
		}
	}
}

// P6.2: turned by all edge angles, and turned back.
func TestTurns(t *testing.T) {
	for _, x := range []struct{ alpha, beta, angle, d, q int64 }{
		{1000, 0, 16384, 0, -1000}, {1000, 0, 0, 1000, 0}, {0, 1000, 16384, 1000, 0}, {1000, 0, 32768, -1000, 0}, {1000, 0, 49152, 0, 1000}, {1, 0, 8192, 0, -1}, {-1, 0, 8192, -1, 0}, {0, -1, 1, -1, -1},
	} {
		same(t, numbersOf(drive.TurnTo(x.alpha, x.beta, x.angle)), good(x.d, x.q), "TurnTo", x)
	}
	for _, x := range []struct{ d, q, angle, alpha, beta int64 }{
		{1000, 0, 16384, 0, 1000}, {0, -1000, 16384, 1000, 0}, {1000, 0, 0, 1000, 0}, {0, 1000, 16384, -1000, 0}, {1, 0, 8192, 0, 0}, {0, 1, 8192, -1, 0}, {-1, 0, 1, -1, -1},
	} {
		same(t, numbersOf(drive.TurnBack(x.d, x.q, x.angle)), good(x.alpha, x.beta), "TurnBack", x)
	}
	for _, angle := range edgeAngles() {
		for _, a := range edgesUpTo(mostBus) {
			for _, b := range edgesUpTo(mostBus) {
				same(t, numbersOf(drive.TurnTo(a, b, angle)), wantTurnTo(a, b, angle), "TurnTo", a, b, angle)
				same(t, numbersOf(drive.TurnBack(a, b, angle)), wantTurnBack(a, b, angle), "TurnBack", a, b, angle)
			}
		}
	}
}

// P6.2: numbers that cannot be turned.
func TestWildTurns(t *testing.T) {
	var l [][3]int64
	for _, x := range beyond(mostBus) {
		l = append(l, [3]int64{x, 0, 0}, [3]int64{0, x, 0}, [3]int64{x, x, -1})
	}
	for _, x := range wildAngles() {
		l = append(l, [3]int64{0, 0, x}, [3]int64{mostBus, -mostBus, x})
	}
	for _, x := range l {
		same(t, numbersOf(drive.TurnTo(x[0], x[1], x[2])), bad(api.ErrRange), "TurnTo", x)
		same(t, numbersOf(drive.TurnBack(x[0], x[1], x[2])), bad(api.ErrRange), "TurnBack", x)
	}
}

// P6.2: the phases of two numbers.
func TestPhases(t *testing.T) {
	for _, x := range []struct{ alpha, beta, a, b, c int64 }{
		{1000, 0, 1000, -500, -500}, {-3, 0, -3, 1, 1}, {3, 0, 3, -2, -2}, {0, 1000, 0, 866, -866}, {0, -1000, 0, -867, 866}, {1, 1, 1, 0, -1}, {1, -1, 1, -2, 0}, {0, 0, 0, 0, 0},
	} {
		same(t, phasesOf(drive.Phases(x.alpha, x.beta)), threeOf{l: [3]int64{x.a, x.b, x.c}}, "Phases", x)
	}
	for _, a := range edgesUpTo(mostBus) {
		for _, b := range edgesUpTo(mostBus) {
			same(t, phasesOf(drive.Phases(a, b)), wantPhases(a, b), "Phases", a, b)
		}
	}
	for _, x := range beyond(mostBus) {
		for _, l := range [][2]int64{{x, 0}, {0, x}, {x, x}} {
			same(t, phasesOf(drive.Phases(l[0], l[1])), threeOf{e: api.ErrRange}, "Phases", l)
		}
	}
}

// P6.3: phases that are just cut, and just not, and others.
func TestSomeDuties(t *testing.T) {
	for _, x := range []struct {
		phases [3]int64
		bus    int64
		duties [3]int64
		isCut  bool
	}{
		{[3]int64{1000, -500, -500}, 2000, [3]int64{57344, 8192, 8192}, false},
		{[3]int64{1000, -500, -500}, 1500, [3]int64{65536, 0, 0}, false},
		{[3]int64{1000, -500, -500}, 1499, [3]int64{65536, 0, 0}, true},
		{[3]int64{1000, -500, -500}, 1000, [3]int64{65536, 0, 0}, true},
		{[3]int64{-500, 1000, -500}, 2000, [3]int64{8192, 57344, 8192}, false},
		{[3]int64{-500, -500, 1000}, 1000, [3]int64{0, 0, 65536}, true},
		{[3]int64{5, 5, 5}, 100, [3]int64{32768, 32768, 32768}, false},
		{[3]int64{}, 1, [3]int64{32768, 32768, 32768}, false},
		{[3]int64{1, 0, 0}, 3, [3]int64{43690, 21845, 21845}, false},
		{[3]int64{-1, 0, 0}, 3, [3]int64{21845, 43690, 43690}, false},
		{[3]int64{1, 0, -1}, 1, [3]int64{65536, 65536, 0}, true}, // the halves are rounded down: the phases are 0, 0 and -1
		{[3]int64{7, 3, 0}, 3, [3]int64{65536, 21845, 0}, true},
	} {
		same(t, dutiesOf(drive.Duties(x.phases, x.bus)), threeOf{l: x.duties, isCut: x.isCut}, "Duties", x)
	}
}

// P6.3: small phases in full, and the numbers at the limits.
func TestAllDuties(t *testing.T) {
	for a := int64(-4); a <= 4; a++ {
		for b := int64(-4); b <= 4; b++ {
			for c := int64(-4); c <= 4; c++ {
				for bus := int64(1); bus <= 9; bus++ {
					same(t, dutiesOf(drive.Duties([3]int64{a, b, c}, bus)), wantDuties([3]int64{a, b, c}, bus), "Duties", a, b, c, bus)
				}
			}
		}
	}
	for _, a := range edgesUpTo(mostBus) {
		for _, b := range edgesUpTo(mostBus) {
			for _, bus := range []int64{1, 2, 12345, mostBus - 1, mostBus} {
				l := [3]int64{a, b, -a / 2}
				same(t, dutiesOf(drive.Duties(l, bus)), wantDuties(l, bus), "Duties", l, bus)
			}
		}
	}
	for _, x := range beyond(mostBus) {
		for i := range 3 {
			l := [3]int64{1, 2, 3}
			l[i] = x
			same(t, dutiesOf(drive.Duties(l, 100)), threeOf{e: api.ErrRange}, "Duties", l)
		}
	}
	for _, bus := range outside(1, mostBus) {
		same(t, dutiesOf(drive.Duties([3]int64{1, 2, 3}, bus)), threeOf{e: api.ErrRange}, "Duties", bus)
	}
}

// drawPhases draws phases that are cut about as often as not.
func drawPhases(r *rand.Rand, bus int64) [3]int64 {
	near := min(mostBus, pick(r, bus/2, bus, 2*bus))
	return [3]int64{drawUpTo(r, near), drawUpTo(r, near), pick(r, drawUpTo(r, near), near/2, 0)}
}

// P6.1 to P6.3: drawn numbers.
func TestDrawnTransforms(t *testing.T) {
	r := chance(1)
	for range 20000 {
		a, b, angle, bus := drawUpTo(r, mostBus), drawUpTo(r, mostBus), drawFrom(r, 0, turn-1), drawBus(r)
		same(t, numbersOf(drive.TurnTo(a, b, angle)), wantTurnTo(a, b, angle), "TurnTo", a, b, angle)
		same(t, numbersOf(drive.TurnBack(a, b, angle)), wantTurnBack(a, b, angle), "TurnBack", a, b, angle)
		same(t, phasesOf(drive.Phases(a, b)), wantPhases(a, b), "Phases", a, b)
		c := -a - b + pick[int64](r, 0, 0, 0, 0, 1, -1)
		same(t, numbersOf(drive.Two(a, b, c)), wantTwo(a, b, c), "Two", a, b, c)
		l := drawPhases(r, bus)
		same(t, dutiesOf(drive.Duties(l, bus)), wantDuties(l, bus), "Duties", l, bus)
	}
}

// P6.14: what the duties promise.
func TestDutiesDifferAsPhases(t *testing.T) {
	r := chance(2)
	for range 20000 {
		bus := pick(r, drawBus(r), drawInt(r, 1, 1000000), drawInt(r, 1, 10))
		l := drawPhases(r, bus)
		duties, isCut, e := drive.Duties(l, bus)
		if e != api.OK {
			t.Fatalf("Duties %v, %d: %d", l, bus, e)
		}
		least, greatest := min(duties[0], duties[1], duties[2]), max(duties[0], duties[1], duties[2])
		if least < 0 || greatest > 65536 {
			t.Errorf("Duties %v, %d: %v", l, bus, duties)
		}
		if isCut {
			continue
		}
		if sum := least + greatest; sum != 65536 && sum != 65535 {
			t.Errorf("Duties %v, %d: %v, with the sum %d", l, bus, duties, sum)
		}
		for i := range 3 {
			k := (i + 1) % 3
			if far := (duties[i]-duties[k])*bus - (l[i]-l[k])*65536; !within(bus, far) {
				t.Errorf("Duties %v, %d: %v, of which %d and %d differ by too much or too little", l, bus, duties, i, k)
			}
		}
	}
}
