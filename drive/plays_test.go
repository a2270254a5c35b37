package drive_test

import (
	"math/rand"
	"slices"
	"testing"

	"coulomb/api"
	"coulomb/drive"
)

// play is a play that is possible, changed: no orders, and a bus voltage with which plain() holds.
func play(changes ...change[played]) played {
	return made(played{m: plain(), offsets: offsets(), tol: tolerances(), g: [2]api.Tuning{gains(256*one, 0), gains(256*one, 0)}, bus: 260000000}, changes...)
}

// ordered changes the orders, and makes as many errors of the speed: the last of some, or 0.
func ordered(l []api.Order, errs ...int64) change[played] {
	return func(p *played) {
		p.l, p.errs = l, make([]int64, len(l))
		for i := range min(len(l), len(l)*len(errs)) {
			p.errs[i] = errs[min(i, len(errs)-1)]
		}
	}
}

// run lets a play run.
func run(p played) ([]api.Rotor, api.Errno) {
	return drive.Play(p.m, p.offsets, p.tol, p.g, p.bus, p.s, p.l, p.errs)
}

// checkPlay compares a play with the definition.
func checkPlay(t *testing.T, p played) ([]api.Rotor, api.Errno) {
	t.Helper()
	states, e := run(p)
	want, wantError := wantPlay(p)
	if !slices.Equal(states, want) || e != wantError {
		t.Errorf("Play %v: %v, %d, not %v, %d", p, states, e, want, wantError)
	}
	return states, e
}

// P6.10: plays of a few steps.
func TestSomePlays(t *testing.T) {
	still := func(p *played) { p.m.Spin = 0 }
	turning := func(p *played) { p.m.Spin, p.s.Speed = 0, 100999 }
	for _, x := range []struct {
		p    played
		want []api.Rotor
	}{
		{play(), nil},
		{play(func(p *played) { p.l, p.errs = []api.Order{}, []int64{} }), nil},
		{play(still, ordered([]api.Order{{D: 20000}, {D: 20000}, {D: -5000}})), []api.Rotor{{D: 5120}, {D: 8929}, {D: 5363}}},
		{play(still, ordered([]api.Order{{Q: 20000}, {Q: 20000}, {Q: -5000}})), []api.Rotor{{Q: 5120}, {Q: 8929}, {Q: 5363}}},
		{play(still, ordered([]api.Order{{D: mostAmp}, {D: -mostAmp}}), func(p *played) { p.bus = 26000000 }), []api.Rotor{{D: 10000}, {D: -615}}},                                                                    // at first within the allowed voltages, then within the room of 10,614,395 microvolt
		{play(still, ordered([]api.Order{{D: 100}, {D: 100}}), func(p *played) { p.g[0] = gains(one, 256*one) }), []api.Rotor{{}, {D: 25}}},                                                                           // 100 microvolt are too few, and with the sum they are 25,700
		{play(turning, ordered([]api.Order{{}})), []api.Rotor{{Q: -10000 + 9000, Speed: 100999, Angle: 105}}},                                                                                                         // the flux takes 1 V
		{play(turning, ordered([]api.Order{{}}, 1), func(p *played) { p.tol[4] = span(-1, 1) }), []api.Rotor{{Q: -1000, Speed: 100999, Angle: 105}}},                                                                  // what is measured changes nothing here
		{play(turning, ordered([]api.Order{{}}, 1), func(p *played) { p.offsets[3], p.tol[3] = 5000, span(0, 5000) }, func(p *played) { p.tol[4] = span(0, 1) }), []api.Rotor{{Q: -1500, Speed: 100999, Angle: 105}}}, // the real flux takes 1.5 V
		{play(ordered([]api.Order{{Load: 7}, {Load: -mostTorque / 1048576}})), []api.Rotor{{Speed: -7}, {Q: 10, Speed: -7 + 65536, Angle: 65535}}},                                                                    // -1 rad/s of the flux give 10 mA
	} {
		got, e := checkPlay(t, x.p)
		if !slices.Equal(got, x.want) || e != api.OK {
			t.Errorf("Play %v: %v, %d, not %v", x.p, got, e, x.want)
		}
	}
}

// P6.10: plays that end early: as the measured speed is too great, a span is empty, or a state is not valid.
func TestPlaysThatEnd(t *testing.T) {
	faster := func(speed int64, wrong api.Span) change[played] {
		return func(p *played) { p.m.Spin, p.s.Speed, p.tol[4] = 0, speed, wrong }
	}
	// each order makes it faster by 50 rad/s
	push := slices.Repeat([]api.Order{{Load: -50000}}, 5)
	stiff := func(tol ...int64) change[played] {
		return func(p *played) {
			p.m, p.tol = tiny(func(m *api.Motor) { m.Ld, m.Lq, m.Micro = 1, 1, 1000 }), tolerances(tol...)
		}
	}
	heavy := func(p *played) {
		p.m = plain(func(m *api.Motor) { m.Ld, m.Lq, m.Flux, m.Poles, m.Current, m.Spin = 2, 1, 2863311, 16, mostAmp, 0 })
		p.tol[4], p.s = span(0, 0), api.Rotor{D: 530709, Q: 1000000}
	}
	for _, x := range []struct {
		p played
		e api.Errno
	}{
		{play(ordered([]api.Order{{}}), faster(100999, span(-1, 1))), api.OK}, {play(ordered([]api.Order{{}}), faster(101000, span(-1, 1))), api.ErrLimit},
		{play(ordered([]api.Order{{}}), faster(-100000, span(-1, 1))), api.OK}, {play(ordered([]api.Order{{}}), faster(-100001, span(-1, 1))), api.ErrLimit},
		{play(ordered([]api.Order{{}}, 1), faster(101999, span(-1, 1))), api.OK}, {play(ordered([]api.Order{{}}, -1), faster(100000, span(-1, 1))), api.ErrLimit}, {play(ordered([]api.Order{{}}, -1), faster(-101000, span(-1, 1))), api.OK}, {play(ordered([]api.Order{{}}, 1), faster(-99001, span(-1, 1))), api.ErrLimit},
		{play(faster(16384000, span(0, 0))), api.OK}, // without steps, the speed is not measured
		{play(ordered(push[:2])), api.OK}, {play(ordered(push[:3])), api.OK}, {play(ordered(push[:4])), api.ErrLimit},
		{play(ordered([]api.Order{{}}), stiff(), func(p *played) { p.s.D = 1 }), api.OK}, {play(ordered([]api.Order{{}}), stiff(0, 1000000), func(p *played) { p.s.D = 1 }), api.ErrLimit}, {play(ordered([]api.Order{{}}), stiff(0, 1000000), func(p *played) { p.s.Q = -1 }), api.ErrLimit}, {play(ordered([]api.Order{{}}), stiff(0, 1000000)), api.OK},
		{play(ordered([]api.Order{{}}), faster(100000, span(0, 0)), func(p *played) { p.s.D, p.s.Q, p.bus = 10000, 10000, 242502 }), api.OK}, {play(ordered([]api.Order{{}}), faster(100000, span(0, 0)), func(p *played) { p.s.D, p.s.Q, p.bus = 10000, 10000, 242501 }), api.ErrLimit}, // at least 99,001 microvolt backwards, for d
		{play(ordered([]api.Order{{}}), faster(-100000, span(0, 0)), func(p *played) { p.s.Q, p.bus = 10000, 2447040 }), api.OK}, {play(ordered([]api.Order{{}}), faster(-100000, span(0, 0)), func(p *played) { p.s.Q, p.bus = 10000, 2447039 }), api.ErrLimit}, // at least 0.999001 V backwards, for q
		{play(ordered([]api.Order{{Load: -mostTorque}})), api.ErrOver}, {play(ordered([]api.Order{{}, {Load: mostTorque}, {}, {}})), api.ErrOver},
		{play(ordered([]api.Order{{}}), heavy), api.ErrOver}, {play(ordered([]api.Order{{}}), heavy, func(p *played) { p.s.D-- }), api.OK},
		{play(ordered([]api.Order{{Load: -200000}, {Load: mostTorque}})), api.ErrLimit}, // what comes first decides
	} {
		if _, e := checkPlay(t, x.p); e != x.e {
			t.Errorf("Play %v: %d, not %d", x.p, e, x.e)
		}
	}
}

// flaws make a play impossible, each in a way of its own, with one error.
type flaws struct {
	e       api.Errno
	changes []change[played]
}

// each are changes that set one of some values.
func each[T any](l []T, set func(p *played, x T)) []change[played] {
	var changes []change[played]
	for _, x := range l {
		changes = append(changes, func(p *played) { set(p, x) })
	}
	return changes
}

// allFlaws are those of a flawless play, in the order in which the chapter names their errors.
func allFlaws() []flaws {
	var quants []change[played]
	for i := range 4 {
		quants = append(quants, each(beyond(quantities), func(p *played, x int64) { p.offsets[i] = x })...)
	}
	quants = append(quants, each([]int{0, 1, 3, 5, 100}, func(p *played, n int) { p.offsets = make([]int64, n) })...)
	impossible := []possible{{i: 0, s: span(-1, 0)}, {i: 1, s: span(-100000, 0)}, {i: 2, s: span(0, 1<<22)}, {i: 3, s: span(-10001, 0)}, {i: 4, s: span(-1, mostSpeed+1)}, {i: 4, s: span(-mostSpeed-1, 2)}}
	gain := each(outside(0, 1<<24), func(p *played, x int64) { p.g[0].P = x })
	gain = append(gain, each(outside(0, 1<<24), func(p *played, x int64) { p.g[0].I = x })...)
	gain = append(gain, each(outside(0, 1<<24), func(p *played, x int64) { p.g[1].P = x })...)
	gain = append(gain, each(outside(0, 1<<24), func(p *played, x int64) { p.g[1].I = x })...)
	many := each([]int{0, 2001}, func(p *played, n int) { p.l, p.errs = make([]api.Order, 2001), make([]int64, n) })
	many = append(many, each([]int{2001, 100000}, func(p *played, n int) { p.l = make([]api.Order, n) })...)
	unequal := each([]int{0, 2, 4, 2000, 100000}, func(p *played, n int) { p.errs = make([]int64, n) })
	unequal = append(unequal, each([]int{0, 2, 4, 2000}, func(p *played, n int) { p.l = make([]api.Order, n) })...)
	return []flaws{
		{api.ErrArg, each(wildMotors(), func(p *played, m api.Motor) { p.m = m })},
		{api.ErrArg, each(wildTolerances(), func(p *played, tol []api.Span) { p.tol = tol })},
		{api.ErrRange, each(impossible, func(p *played, x possible) { p.tol[x.i] = x.s })},
		{api.ErrArg, quants},
		{api.ErrRange, each([][]int64{{-1, 0, 0, 0}, {0, -100000, 0, 0}, {0, 0, 1 << 22, 0}, {0, 0, 0, -10001}}, func(p *played, l []int64) { p.offsets = slices.Clone(l) })},
		{api.ErrRange, each([][]int64{{4, 0, 0, 0}, {0, -6, 0, 0}, {0, 0, 7, 0}, {0, 0, 0, 8}}, func(p *played, l []int64) { p.offsets = slices.Clone(l) })},
		{api.ErrArg, gain},
		{api.ErrRange, each(outside(1, mostBus), func(p *played, x int64) { p.bus = x })},
		{api.ErrMany, many},
		{api.ErrEqual, unequal},
		{api.ErrRange, rangeFlaws()},
		{api.ErrLimit, each([]int64{103000, -102001}, func(p *played, x int64) { p.s.Speed = x })},
	}
}

// rangeFlaws are orders, errors of the speed and states that are not possible.
func rangeFlaws() []change[played] {
	var l []change[played]
	for i := range 3 {
		l = append(l, each(beyond(mostAmp), func(p *played, x int64) { p.l[i].D = x })...)
		l = append(l, each(beyond(mostAmp), func(p *played, x int64) { p.l[i].Q = x })...)
		l = append(l, each(beyond(mostTorque), func(p *played, x int64) { p.l[i].Load = x })...)
		l = append(l, each(outside(-1, 2), func(p *played, x int64) { p.errs[i] = x })...)
	}
	l = append(l, each(beyond(10000), func(p *played, x int64) { p.s.D = x })...)
	l = append(l, each(beyond(10000), func(p *played, x int64) { p.s.Q = x })...)
	l = append(l, each(beyond(16384000), func(p *played, x int64) { p.s.Speed = x })...)
	return append(l, each(wildAngles(), func(p *played, x int64) { p.s.Angle = x })...)
}

// flawless is a play that is possible, and has tolerances.
func flawless() played {
	p := play(ordered([]api.Order{{D: 100, Load: 5}, {Q: 100}, {Q: -100}}, 1, -1, 2))
	p.tol, p.offsets = []api.Span{span(0, 3), span(-5, 5), span(-6, 6), span(-7, 7), span(-1, 2)}, []int64{1, -2, 3, -4}
	return p
}

// P6.10: all that is not possible, and what comes before what.
func TestWildPlays(t *testing.T) {
	if _, e := checkPlay(t, flawless()); e != api.OK {
		t.Errorf("Play: %d", e)
	}
	l := allFlaws()
	r := chance(10)
	for i, group := range l {
		for _, c := range group.changes {
			plays := []played{made(flawless(), c)}
			for _, others := range l[i+1:] {
				plays = append(plays, made(flawless(), pick(r, others.changes...), c))
			}
			for _, p := range plays {
				if got, e := run(p); len(got) > 0 || e != group.e {
					t.Errorf("Play %v: %v, %d, not %d", p, got, e, group.e)
				}
			}
		}
	}
}

// P6.10: as many orders as there may be.
func TestLongPlay(t *testing.T) {
	p := play(ordered(slices.Repeat([]api.Order{{D: 3000, Q: -200}, {D: -3000, Load: -20}}, 1000)))
	p.g, p.m.Spin = [2]api.Tuning{gains(100*one, one), gains(100*one, one)}, 1000
	if states, e := checkPlay(t, p); len(states) != 2000 || e != api.OK {
		t.Errorf("Play of 2000 orders: %d states, %d", len(states), e)
	}
	p = play(ordered(make([]api.Order, 2001)))
	if states, e := checkPlay(t, p); len(states) != 0 || e != api.ErrMany {
		t.Errorf("Play of 2001 orders: %d states, %d", len(states), e)
	}
}

// drawPlay draws a play that is possible: usually of a motor that holds, and stays within its speeds.
func drawPlay(r *rand.Rand, steps int) played {
	m := pick(r, drawMotor, drawUsual, drawUsual, drawTiny)(r)
	if r.Intn(2) == 0 {
		m.Spin = 0
	}
	p := played{m: m, tol: drawTolerances(r, m), g: [2]api.Tuning{drawGains(r), drawGains(r)}, bus: drawBus(r)}
	p.offsets = drawOffsets(r, p.tol)
	p.s = drawState(r, m.Current, max(-mostSpeed, min(mostSpeed, drawSpeed(r, m)+drawIn(r, p.tol[4]))))
	for range r.Intn(steps + 1) {
		o := api.Order{D: drawUpTo(r, pick(r, m.Current, mostAmp)), Q: drawUpTo(r, pick(r, m.Current, mostAmp)), Load: drawUpTo(r, pick[int64](r, 0, 1000, mostTorque))}
		p.l, p.errs = append(p.l, o), append(p.errs, drawIn(r, p.tol[4]))
	}
	return p
}

// P6.10: drawn plays.
func TestDrawnPlays(t *testing.T) {
	r := chance(11)
	ends, steps := map[api.Errno]int{}, 0
	for range 15000 {
		p := drawPlay(r, 8)
		states, e := checkPlay(t, p)
		ends[e]++
		steps += len(states)
	}
	if min(ends[api.OK], ends[api.ErrLimit]) < 1000 || ends[api.ErrOver] < 100 || steps < 5000 {
		t.Errorf("plays end in these ways: %v, with %d steps", ends, steps)
	}
}
