package update_test

import (
	"slices"
	"testing"

	"coulomb/api"
	"coulomb/protect"
)

// event is what a machine has got: signals, or another guard.
type event struct {
	signals *api.Signals
	guard   api.Guard
}

// play makes the machine that has got some events, the first of which is a guard.
func play(t *testing.T, l []event) (m *protect.Machine, steps int) {
	t.Helper()
	for _, e := range l {
		var errno api.Errno
		switch {
		case e.signals != nil:
			_, errno = m.Step(*e.signals)
			steps++
		case m == nil:
			m, errno = protect.NewMachine(e.guard)
		default:
			m, errno = m.With(e.guard)
		}
		same(t, errno, api.OK, "Step, NewMachine or With")
	}
	return m, steps
}

// watched is a life, and what the machines of both controllers have got.
type watched struct {
	*life
	events [2][]event
}

// watch lets a tick pass, and notes what the machines have got by it.
func (x *watched) watch() api.Act {
	x.t.Helper()
	for i := range 2 {
		x.host(i)
	}
	b := x.beat()
	var ran [2]bool
	for i := range 2 {
		ran[i] = x.w.Phase(i) == runs
		if ran[i] && !b.Fail[i] {
			x.events[i] = append(x.events[i], event{signals: &b.Signals})
		}
	}
	x.acts = x.tick(b)
	for i := range 2 {
		if ran[i] || x.w.Phase(i) != runs {
			continue
		}
		g, fits := x.m.sides[i].f.fits(x.m.sides[i].slot, key)
		same(x.t, fits, true, "whether it fits")
		x.events[i] = nil
		if x.w.Phase(1-i) == runs && ran[1-i] {
			x.events[i] = slices.Clone(x.events[1-i])
		}
		x.events[i] = append(x.events[i], event{guard: g})
	}
	return x.acts
}

// newWatched makes a life that is watched.
func newWatched(x *life) *watched {
	g, _ := x.m.sides[0].f.fits(slot0, key)
	return &watched{x, [2][]event{{{guard: g}}, {{guard: g}}}}
}

// P10.17: in each tick the act is that of the machine in charge, which has done the steps of all ticks.
func TestLive(t *testing.T) {
	r := chance(41)
	changes := 0
	for run := range 24 {
		x := newLife(t, r, moods()[run%6])
		x.alive = run%2 == 0
		y := newWatched(x)
		for n := 1; n <= 300; n++ {
			before := x.w.Charge()
			act := y.watch()
			charge := x.w.Charge()
			if charge < 0 {
				same(t, act, api.Act{}, "the act without somebody in charge")
				continue
			}
			if before != charge {
				changes++
			}
			if n%10 > 0 && before == charge {
				continue // only now and then, because it takes long
			}
			if x.w.Phase(charge) != runs { // it was rejected in this tick
				continue
			}
			m, steps := play(t, y.events[charge])
			same(t, act, m.Act(), "the act of the tick", n)
			same(t, stateOf(x.w.Machine(charge)), stateOf(m), "the machine in charge")
			if x.alive {
				same(t, steps, n, "how many steps the machine in charge has done")
			}
		}
	}
	if changes < 100 {
		t.Errorf("just %d times somebody else was in charge", changes)
	}
}

// P10.17, G2: the stated reaction time holds in each tick of an update.
func TestReactionWhileUpdating(t *testing.T) {
	r := chance(42)
	reacted := 0
	for range 30 {
		x := newLife(t, r, mood{fails: pick(r, 10, 30, 1<<30), back: 2, hot: 1 << 30, noise: 1 << 30, wrong: pick(r, 5, 1<<30), wild: 100})
		x.alive = true
		for hotFor, n := 0, 0; n < 400; n++ {
			if x.heat == 0 && x.one(25) { // hotter than the limit of any guard, whose debounce is 4 at most
				x.heat, x.temp = 6, 335000
			}
			hotFor++
			if x.heat == 0 {
				hotFor = 0
			}
			was := x.acts
			x.live()
			if hotFor >= 4 {
				same(t, x.acts, api.Act{}, "the act, when it was hot for ticks", hotFor)
			}
			if hotFor > 0 && was == driven && x.acts == (api.Act{}) {
				reacted++
			}
		}
	}
	if reacted < 100 {
		t.Errorf("just %d times the contactors were opened", reacted)
	}
}

// P10.18: without loss of power at least one controller runs all the time, and is in charge.
func TestNeverBoth(t *testing.T) {
	r := chance(43)
	for run := range 16 {
		x := newLife(t, r, mood{fails: 1 << 30, back: 3, hot: pick(r, 8, 20), noise: pick(r, 20, 1<<30), wrong: pick(r, 5, 1<<30), wild: pick(r, 10, 100)})
		for range 400 {
			x.host(run % 2)
			x.live()
			if x.w.Phase(0) != runs && x.w.Phase(1) != runs || x.w.Charge() < 0 {
				t.Fatalf("nobody runs: %d, %d, %d", x.w.Phase(0), x.w.Phase(1), x.w.Charge())
			}
			for i := range 2 { // also behind all switches that are possible
				if !x.one(8) {
					continue
				}
				c := x.clone()
				c.switches(0)
				c.switches(1)
				c.switches(i)
				if c.w.Phase(0) != runs && c.w.Phase(1) != runs {
					t.Fatalf("behind Switch nobody runs")
				}
			}
		}
	}
}

// trial is an image in a slot of a controller that was started, though it was not good.
type trial struct {
	i, first int
	im       api.Image
}

// P10.19: a slot of each controller is always good, fits, and is not bad; none is ever dead; an image that is not good is started three times at most.
func TestFallback(t *testing.T) {
	r := chance(44)
	tried := map[trial]int{}
	thirds := 0
	for run := range 24 {
		x := newLife(t, r, moods()[run%6])
		if run%4 == 0 {
			x.how.fails, x.how.back = 8, 1
		}
		clear(tried)
		for range 400 {
			ran := [2]bool{x.w.Phase(0) == runs, x.w.Phase(1) == runs}
			x.live()
			for i := range 2 {
				f := &flashModel{raw: allRaw(t, x.w.Flash(i))}
				checkFallback(t, x.w.Phase(i), f)
				for _, first := range []int{slot0, slot1} {
					s := f.look(first)
					at := trial{i, first, s.Image}
					if !s.Ready {
						delete(tried, at)
					}
					if !ran[i] && x.w.Phase(i) == runs && x.w.Version(i) == s.Image.Version && s.Ready && !s.Good {
						tried[at]++
						if tried[at] == 3 {
							thirds++
						}
						if tried[at] > 3 {
							t.Fatalf("%v is tried for the time %d", at, tried[at])
						}
					}
				}
			}
		}
	}
	if thirds < 3 {
		t.Errorf("just %d images were tried three times", thirds)
	}
}

// checkFallback checks that a controller can always start.
func checkFallback(t *testing.T, phase int, f *flashModel) {
	t.Helper()
	if phase == api.TwinDead {
		t.Fatalf("a controller is dead")
	}
	safe := 0
	for _, first := range []int{slot0, slot1} {
		s := f.look(first)
		if _, fits := f.fits(first, key); fits && s.Good && !s.Bad {
			safe++
		}
	}
	if safe == 0 {
		t.Fatalf("no slot is good: %v, %v", f.look(slot0), f.look(slot1))
	}
}

// P10.20: a controller runs only what fits.
func TestComplete(t *testing.T) {
	r := chance(45)
	seen := map[int]bool{}
	for run := range 24 {
		how := moods()[run%6]
		how.wrong = 3
		x := newLife(t, r, how)
		for range 300 {
			x.live()
			for i := range 2 {
				if x.w.Phase(i) != runs {
					continue
				}
				f := &flashModel{raw: allRaw(t, x.w.Flash(i))}
				fit := false
				for _, first := range []int{slot0, slot1} {
					s := f.look(first)
					_, fits := f.fits(first, key)
					fit = fit || fits && s.Image.Version == x.w.Version(i) && s.Ready && !s.Bad && (s.Good || s.Trials > 0)
				}
				same(t, fit, true, "whether what runs fits", i, x.w.Version(i))
				seen[x.w.Version(i)] = true
			}
		}
	}
	if len(seen) < 5 {
		t.Errorf("just these versions ran: %v", seen)
	}
}

// P10.20: blocks come in any order, and twice, and the power is lost; in the end the image runs.
func TestBlocksInAnyOrder(t *testing.T) {
	r := chance(46)
	g := guard(hot(333000))
	text := textOf(g)
	l := blocksOf(text)
	for range 40 {
		x := closes(t)
		im := imageOf(4, key, text)
		for n := 0; x.m.toRun(x.m.sides[1]) != slot1; n++ {
			if n > 3000 {
				t.Fatalf("the image is not complete")
			}
			s := x.m.sides[1]
			if s.runs() && !s.loads {
				same(t, x.offer(1, im), api.OK, "Offer")
			}
			if s.loads && r.Intn(2) == 0 {
				k := r.Intn(len(l))
				x.block(1, k, l[k])
			}
			b := beat(back(1))
			if r.Intn(50) == 0 {
				b.Fail[1], b.Mask = true, drawMask(r)
			}
			same(t, x.tick(b), driven, "the act")
		}
		if x.w.Phase(1) == runs && x.w.Version(1) == 1 {
			x.starts(1)
		}
		x.run(bootTicks+1, back(1))
		same(t, x.w.Version(1), 4, "Version")
		x.checkMachines(slices.Repeat([]api.Signals{beat(temp(332000)).Signals}, 5)...)
		x.checkMachines(slices.Repeat([]api.Signals{beat(temp(334000)).Signals}, 5)...)
	}
}
