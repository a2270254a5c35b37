package estimate_test

import (
	"math/big"
	"math/rand"
	"testing"

	"coulomb/api"
	"coulomb/cell"
	"coulomb/estimate"
)

// exactDown returns a quotient of numbers of any size, rounded down; the divisor is above 0.
func exactDown(a *big.Int, b int64) *big.Int { return new(big.Int).Div(a, big.NewInt(b)) }

// into returns the nearest number to x of a range.
func into(x *big.Int, lo, hi int64) int64 {
	switch {
	case x.Cmp(big.NewInt(lo)) < 0:
		return lo
	case x.Cmp(big.NewInt(hi)) > 0:
		return hi
	}
	return x.Int64()
}

// shownOf is what the chapter says that a sensor shows.
func shownOf(s api.Sensor, x, noise int64) int64 {
	sum := big.NewInt(x)
	sum.Add(sum, big.NewInt(noise)).Add(sum, exactDown(big.NewInt(s.Step), 2))
	return into(sum.Mul(exactDown(sum, s.Step), big.NewInt(s.Step)), s.Least, s.Most)
}

// P3.1: sensors within the limits, and others.
func TestCheckSensor(t *testing.T) {
	const far = 1 << 30
	for _, s := range []api.Sensor{
		plain(), exact(), {Step: 1}, {Noise: far, Step: far, Least: -far, Most: far}, {Step: far, Least: far, Most: far}, {Noise: far, Step: 1, Least: -far, Most: -far}, {Step: 7, Least: -1, Most: -1},
	} {
		if e := estimate.CheckSensor(s); e != api.OK {
			t.Errorf("%v: %d", s, e)
		}
	}
	for _, s := range wildSensors() {
		if e := estimate.CheckSensor(s); e != api.ErrArg {
			t.Errorf("%v: %d", s, e)
		}
	}
}

// P3.1: the examples of the chapter, and sensors of other kinds.
func TestShow(t *testing.T) {
	const far = 1 << 30
	odd := api.Sensor{Noise: 9, Step: 7, Least: -16, Most: 16}
	for _, x := range []struct {
		s              api.Sensor
		x, noise, want int64
	}{
		{plain(), 42, 0, 40}, {plain(), 42, 3, 50}, {plain(), 42, -3, 40}, {plain(), 1000, 0, 100}, {plain(), -50, 0, 0},
		{plain(), 44, 0, 40}, {plain(), 45, 0, 50}, {plain(), 94, 0, 90}, {plain(), 95, 0, 100}, {plain(), 4, 0, 0}, {plain(), 5, 0, 10}, {plain(), 7, -3, 0}, {plain(), 2, 3, 10}, {plain(), 1, 3, 0},
		{odd, 3, 0, 0}, {odd, 4, 0, 7}, {odd, -3, 0, 0}, {odd, -4, 0, -7}, {odd, -10, 0, -7}, {odd, -11, 0, -14}, {odd, -18, 0, -16}, {odd, -17, 0, -14}, {odd, 17, 0, 14}, {odd, 18, 0, 16}, {odd, 9, 9, 16}, {odd, -9, -9, -16},
		{exact(), -far, 0, -far}, {exact(), far, 0, far}, {exact(), 5, 0, 5}, {exact(), -5, 0, -5}, {exact(), most, 0, far}, {exact(), -most, 0, -far},
		{api.Sensor{Noise: far, Step: far, Least: -far, Most: far}, most, far, far}, {api.Sensor{Noise: far, Step: far, Least: -far, Most: far}, -most, -far, -far},
		{api.Sensor{Noise: far, Step: far, Least: -far, Most: far}, far / 2, 0, far}, {api.Sensor{Noise: far, Step: far, Least: -far, Most: far}, far/2 - 1, 0, 0}, {api.Sensor{Noise: far, Step: far, Least: -far, Most: far}, far/2 - 1, 1 - far, 0}, {api.Sensor{Noise: far, Step: far, Least: -far, Most: far}, far/2 - 1, -far, -far},
		{api.Sensor{Step: 3, Least: 5, Most: 5}, 100, 0, 5}, {api.Sensor{Step: 3, Least: 5, Most: 5}, -100, 0, 5},
	} {
		if got := of(estimate.Show(x.s, x.x, x.noise)); got != good(x.want) {
			t.Errorf("Show of %v, %d, %d: %v, not %d", x.s, x.x, x.noise, got, x.want)
		}
	}
}

// P3.1: what is behind the readings of the chapter's examples, and of sensors of other kinds.
func TestBehind(t *testing.T) {
	const far = 1 << 30
	odd := api.Sensor{Noise: 2, Step: 7, Least: -16, Most: 16}
	whole := api.Sensor{Noise: 1, Step: 5, Least: -10, Most: 10}
	wide := api.Sensor{Noise: far, Step: far, Least: -far, Most: far}
	none := bad[api.Span](api.ErrNone)
	ends := func(lo, hi int64) result[api.Span] { return good(span(lo, hi)) }
	for _, x := range []struct {
		s       api.Sensor
		reading int64
		want    result[api.Span]
	}{
		{plain(), 40, ends(32, 47)}, {plain(), 100, ends(92, most)}, {plain(), 0, ends(-most, 7)}, {plain(), 45, none}, {plain(), 110, none}, {plain(), -10, none}, {plain(), 41, none}, {plain(), 39, none}, {plain(), 10, ends(2, 17)}, {plain(), 90, ends(82, 97)},
		{odd, 0, ends(-5, 5)}, {odd, 7, ends(2, 12)}, {odd, 14, ends(9, 19)}, {odd, 16, ends(16, most)}, {odd, 15, none}, {odd, -7, ends(-12, -2)}, {odd, -14, ends(-19, -9)}, {odd, -15, none}, {odd, -16, ends(-most, -16)}, {odd, 21, none}, {odd, -21, none},
		{whole, 5, ends(2, 8)}, {whole, -5, ends(-8, -2)}, {whole, 10, ends(7, most)}, {whole, -10, ends(-most, -7)}, {whole, 1, none}, {whole, 15, none},
		{api.Sensor{Step: 1}, 0, ends(-most, most)}, {api.Sensor{Noise: 5, Step: 3, Least: 7, Most: 7}, 7, ends(-most, most)}, {api.Sensor{Noise: 5, Step: 3, Least: 7, Most: 7}, 6, none}, {api.Sensor{Step: 3, Least: 7, Most: 8}, 7, ends(-most, 7)}, {api.Sensor{Step: 3, Least: 7, Most: 8}, 8, ends(8, most)},
		{exact(), 5, ends(5, 5)}, {exact(), far, ends(far, most)}, {exact(), -far, ends(-most, -far)}, {exact(), far + 1, none}, {exact(), -far - 1, none}, {exact(), 1 - far, ends(1-far, 1-far)},
		{wide, far, ends(far/2-far, most)}, {wide, -far, ends(-most, far/2-1)}, {wide, 0, ends(-far/2-far, far/2-1+far)}, {wide, 1, none},
	} {
		if got := of(estimate.Behind(x.s, x.reading)); got != x.want {
			t.Errorf("Behind of %v, %d: %v, not %v", x.s, x.reading, got, x.want)
		}
	}
	for _, reading := range wildNumbers() {
		for _, s := range []api.Sensor{plain(), exact(), wide, {Step: 1}} {
			if got := of(estimate.Behind(s, reading)); got != none {
				t.Errorf("Behind of %v, %d: %v", s, reading, got)
			}
		}
	}
}

// P3.1: small sensors: all quantities and noises that matter are tried, as all beyond show the ends of the range.
func TestBehindOfAll(t *testing.T) {
	r := chance(1)
	for range 400 {
		ends := drawSpan(r, -20, 20)
		s := api.Sensor{Noise: r.Int63n(5), Step: 1 + r.Int63n(11), Least: ends.Lo, Most: ends.Hi}
		behind := map[int64]api.Span{}
		for x := int64(-60); x <= 60; x++ {
			for noise := -s.Noise; noise <= s.Noise; noise++ {
				reading := shownOf(s, x, noise)
				found, ok := behind[reading]
				if !ok {
					found.Lo = x
				}
				behind[reading] = span(found.Lo, x)
			}
		}
		for reading := int64(-30); reading <= 30; reading++ {
			want := bad[api.Span](api.ErrNone)
			if found, ok := behind[reading]; ok {
				if found.Lo == -60 {
					found.Lo = -most
				}
				if found.Hi == 60 {
					found.Hi = most
				}
				want = good(found)
			}
			if got := of(estimate.Behind(s, reading)); got != want {
				t.Errorf("Behind of %v, %d: %v, not %v", s, reading, got, want)
			}
		}
	}
}

// P3.1: sensors and quantities that are drawn, against the formula in numbers of any size.
func TestShowThatIsDrawn(t *testing.T) {
	r := chance(2)
	for range 20000 {
		s := drawSensor(r)
		x, noise := drawFrom(r, -most, most), drawFrom(r, -s.Noise, s.Noise)
		if got, want := of(estimate.Show(s, x, noise)), good(shownOf(s, x, noise)); got != want {
			t.Errorf("Show of %v, %d, %d: %v, not %v", s, x, noise, got, want)
		}
	}
}

// drawNear draws a sensor, and a quantity that is often near to its range.
func drawNear(r *rand.Rand) (api.Sensor, int64) {
	s := drawSensor(r)
	if r.Intn(2) == 0 {
		s.Noise, s.Step = r.Int63n(100), 1+r.Int63n(100)
	}
	if r.Intn(4) == 0 {
		return s, drawFrom(r, -most, most)
	}
	return s, pick(r, []int64{s.Least, s.Most, drawFrom(r, s.Least, s.Most)}) + r.Int63n(2*(s.Noise+s.Step)) - s.Noise - s.Step
}

// isShown reports whether a reading is shown of x with some noise. With more noise nothing less is shown, so the least noise that is enough is looked for.
func isShown(s api.Sensor, x, reading int64) bool {
	lo, hi := -s.Noise, s.Noise
	for lo < hi {
		middle := lo + (hi-lo)/2
		if shownOf(s, x, middle) < reading {
			lo = middle + 1
		} else {
			hi = middle
		}
	}
	return shownOf(s, x, lo) == reading
}

// P3.1, P3.11: each quantity is behind what is shown of it; of each one behind a reading this is shown, and of the next ones it is not.
func TestBehindAndShown(t *testing.T) {
	r := chance(3)
	inner := 0
	for range 20000 {
		s, x := drawNear(r)
		reading, e := estimate.Show(s, x, drawFrom(r, -s.Noise, s.Noise))
		behind, e2 := estimate.Behind(s, reading)
		if e != api.OK || e2 != api.OK || x < behind.Lo || x > behind.Hi {
			t.Fatalf("behind the reading %d of %v, %d, there is %v: %d, %d", reading, s, x, behind, e, e2)
		}
		if reading > s.Least && reading < s.Most {
			inner++
		}
		for _, y := range []int64{behind.Lo, behind.Hi, drawIn(r, behind)} {
			if !isShown(s, y, reading) {
				t.Errorf("the reading %d of %v is not shown of %d, of %v", reading, s, y, behind)
			}
		}
		for _, y := range []int64{behind.Lo - 1, behind.Hi + 1} {
			if y >= -most && y <= most && isShown(s, y, reading) {
				t.Errorf("the reading %d of %v is shown of %d, beyond %v", reading, s, y, behind)
			}
		}
	}
	if inner < 2000 {
		t.Errorf("only %d readings are no ends of a range", inner)
	}
}

// P3.16: greater numbers are not shown as less, and what is behind greater readings is not earlier.
func TestOrderOfReadings(t *testing.T) {
	r := chance(4)
	for range 20000 {
		s, x := drawNear(r)
		noise, y := drawFrom(r, -s.Noise, s.Noise), drawFrom(r, x, most)
		less, e := estimate.Show(s, x, noise)
		more, e2 := estimate.Show(s, y, noise)
		if e != api.OK || e2 != api.OK || less > more {
			t.Errorf("%v shows %d of %d, and %d of %d", s, less, x, more, y)
		}
		a, e := estimate.Behind(s, less)
		b, e2 := estimate.Behind(s, more)
		if e != api.OK || e2 != api.OK || a.Lo > b.Lo || a.Hi > b.Hi {
			t.Errorf("behind %d of %v there is %v, and behind %d %v", less, s, a, more, b)
		}
	}
}

// P3.1, R1: the errors of Show and Behind, in their order.
func TestShowErrors(t *testing.T) {
	for _, s := range wildSensors() {
		for _, x := range append(wildNumbers(), 0, 5) {
			if got := of(estimate.Show(s, x, x)); got != bad[int64](api.ErrArg) {
				t.Errorf("Show of %v, %d: %v", s, x, got)
			}
			if got := of(estimate.Behind(s, x)); got != bad[api.Span](api.ErrArg) {
				t.Errorf("Behind of %v, %d: %v", s, x, got)
			}
		}
	}
	for _, x := range wildNumbers() {
		for _, noise := range append(wildNumbers(), 0, 4) {
			if got := of(estimate.Show(plain(), x, noise)); got != bad[int64](api.ErrArg) {
				t.Errorf("Show of %d with %d: %v", x, noise, got)
			}
		}
	}
	for _, noise := range append(wildNumbers(), 4, -4) {
		for _, x := range []int64{42, 1000, most, -most} {
			if got := of(estimate.Show(plain(), x, noise)); got != bad[int64](api.ErrRange) {
				t.Errorf("Show of %d with %d: %v", x, noise, got)
			}
		}
	}
	for _, noise := range []int64{1, -1} {
		if got := of(estimate.Show(exact(), 0, noise)); got != bad[int64](api.ErrRange) {
			t.Errorf("Show without noise, with %d: %v", noise, got)
		}
	}
}

// four are four sensors that differ in all.
func four() [4]api.Sensor {
	return [4]api.Sensor{{Noise: 1000, Step: 1000, Most: 5000000}, {Noise: 100, Step: 7, Least: -30000, Most: 30000}, {Noise: 5, Step: 20, Most: 400000}, {Noise: 50, Step: 1, Most: 310000}}
}

// P3.3: what the sensors of the cell of the examples show.
func TestSense(t *testing.T) {
	in := api.Input{Current: 10000, Ambient: 299990}
	all := [4]bool{true, true, true, true}
	for _, x := range []struct {
		s     api.State
		in    api.Input
		noise [4]int64
		want  [4]int64
	}{
		{half(), in, [4]int64{}, [4]int64{3490000, 10003, 300000, 299990}},
		{half(), in, [4]int64{1000, 100, 5, 50}, [4]int64{3491000, 10101, 300000, 300040}},
		{half(), in, [4]int64{-1000, -100, -5, -50}, [4]int64{3489000, 9898, 300000, 299940}},
		{half(), in, [4]int64{499, -50, 5, 1}, [4]int64{3490000, 9947, 300000, 299991}},
		{half(), in, [4]int64{500, 0, -5, -1}, [4]int64{3491000, 10003, 300000, 299989}},
		{api.State{Charge: 500000, Relax: -20000, Temp: 12345}, api.Input{Current: -1 << 20, Ambient: 400000}, [4]int64{}, [4]int64{4569000, -30000, 12340, 310000}},
		{api.State{Through: most, Age: most}, api.Input{Current: 1 << 20}, [4]int64{}, [4]int64{1951000, 30000, 0, 0}},
	} {
		if got, want := of(estimate.Sense(four(), model(), x.s, x.in, x.noise)), good(api.Reading{Has: all, Value: x.want}); got != want {
			t.Errorf("Sense of %v, %v, %v: %v, not %v", x.s, x.in, x.noise, got, want)
		}
	}
}

// P3.3: cells, states and sensors that are drawn.
func TestSenseThatIsDrawn(t *testing.T) {
	r := chance(5)
	for range 3000 {
		c := drawCell(r)
		s, in := drawState(r, c), api.Input{Current: drawFrom(r, -1<<20, 1<<20), Ambient: drawFrom(r, 0, 400000)}
		voltage, _ := cell.Voltage(c, s, in.Current)
		var l [4]api.Sensor
		var noise [4]int64
		want := api.Reading{Has: [4]bool{true, true, true, true}}
		for i, x := range []int64{voltage, in.Current, s.Temp, in.Ambient} {
			l[i] = drawSensor(r)
			noise[i] = drawFrom(r, -l[i].Noise, l[i].Noise)
			want.Value[i] = shownOf(l[i], x, noise[i])
		}
		if got := of(estimate.Sense(l, c, s, in, noise)); got != good(want) {
			t.Errorf("Sense of %v, %v, %v, %v, %v: %v, not %v", l, c, s, in, noise, got, want)
		}
	}
}

// P3.3, R1: the errors of Sense, in their order.
func TestSenseErrors(t *testing.T) {
	check := func(l [4]api.Sensor, c api.Cell, s api.State, in api.Input, noise [4]int64, want api.Errno) {
		t.Helper()
		if got := of(estimate.Sense(l, c, s, in, noise)); got != bad[api.Reading](want) {
			t.Errorf("Sense of %v, %v, %v, %v, %v: %v", l, c, s, in, noise, got)
		}
	}
	wrong := api.Input{Current: 1<<20 + 1, Ambient: -1}
	for i := range 4 {
		for _, s := range wildSensors() {
			l := four()
			l[i] = s
			check(l, model(), half(), api.Input{}, [4]int64{}, api.ErrArg)
			check(l, model(), api.State{Charge: -1}, wrong, [4]int64{}, api.ErrArg)
		}
		for _, x := range append(wildNumbers(), four()[i].Noise+1, -four()[i].Noise-1) {
			var noise [4]int64
			noise[i] = x
			check(four(), model(), half(), api.Input{}, noise, api.ErrRange)
			check(four(), api.Cell{}, half(), api.Input{}, noise, api.ErrArg)
		}
	}
	for _, c := range wildCells() {
		check(four(), c, half(), api.Input{}, [4]int64{}, api.ErrArg)
		check(four(), c, api.State{Charge: -1}, wrong, [4]int64{2000}, api.ErrArg)
	}
	for _, s := range wildStates() {
		check(four(), model(), s, api.Input{}, [4]int64{}, api.ErrRange)
	}
	for _, x := range append(wildNumbers(), 1<<20+1, -1<<20-1) {
		check(four(), model(), half(), api.Input{Current: x}, [4]int64{}, api.ErrRange)
	}
	for _, x := range append(wildNumbers(), -1, 400001) {
		check(four(), model(), half(), api.Input{Ambient: x}, [4]int64{}, api.ErrRange)
	}
}
