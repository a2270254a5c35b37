package protect_test

import (
	"math/rand"
	"slices"
	"testing"

	"coulomb/api"
	"coulomb/protect"
)

// setting is a guard, a lag and faults.
type setting struct {
	g   api.Guard
	lag int
	l   []api.Break
}

// drawSettings draws some settings for each single fault.
func drawSettings(r *rand.Rand, times int) []setting {
	var l []setting
	for _, s := range singles() {
		for range times {
			x := setting{drawGuard(r), pick(r, 0, 1, 2, 5, 20), s}
			x.g.OpenTicks += pick(r, 0, x.lag, x.lag) // with too few of them it trips now and then
			x.g.PreTicks += pick(r, 0, 5)
			l = append(l, x)
		}
	}
	return l
}

// fairTruths draws truths that are fair. Quantities are within their limits, or beyond them, for some ticks each; often they are so for the stated reaction time, or less by 1.
func fairTruths(r *rand.Rand, x setting, n int, beyond, crash bool) []api.Truth {
	var l []api.Truth
	for len(l) < n {
		now := api.Truth{Value: [5]int64{98, 102, pick[int64](r, -1, 0, 1), 98, 102}, Link: volt, Pack: volt, Want: r.Intn(6) > 0}
		ticks := 1 + r.Intn(12)
		limit := pick(r, limits()...)
		if beyond && r.Intn(3) == 0 {
			now.Value[limit.quantity] = limit.limit(x.g) + limit.beyond*(x.g.Spread[limit.quantity]/2+pick[int64](r, 1, 1, 5))
			ticks = x.g.Debounce[limit.cause-1] + x.lag + pick(r, -1, 0, 0, 5)
		}
		if crash && r.Intn(4) == 0 {
			now.Crash, now.Water = likely(r, 50), likely(r, 50)
			ticks = pick(r, 1, x.lag+1, x.lag+4)
		}
		for range max(1, ticks) {
			l = append(l, fair(r, x.g, now))
		}
	}
	return l[:n]
}

// fair draws the errors of a truth, what a channel shows that lies, and whether a reset is asked for.
func fair(r *rand.Rand, g api.Guard, now api.Truth) api.Truth {
	for q, by := range g.Spread {
		for i := range 3 {
			now.Error[i][q] = pick(r, -by/2, by/2, drawInt(r, -by/2, by/2))
		}
		now.Lie[q] = max(-most, min(most, pick(r, now.Value[q]+drawInt(r, -9, 9), drawNumber(r), 0)))
	}
	if r.Intn(15) == 0 {
		now.Link = drawInt(r, 0, volt)
	}
	now.Reset = likely(r, 50)
	return now
}

// isBeyond reports whether a quantity is beyond a limit by more than half of its spread.
func isBeyond(g api.Guard, x limitOf, truth api.Truth) bool {
	return (truth.Value[x.quantity]-x.limit(g))*x.beyond > g.Spread[x.quantity]/2
}

// P5.12, G2: behind the stated reaction time the path is open, with any single fault; without a fault it is often closed up to then.
func TestReactionTime(t *testing.T) {
	r := chance(512)
	checked, needed := 0, 0
	for _, x := range drawSettings(r, 25) {
		truths := fairTruths(r, x, 150, true, likely(r, 10))
		out := played(t, x.g, x.lag, x.l, truths)
		for _, limit := range limits() {
			n, e := protect.Reaction(x.g, limit.cause, x.lag)
			if e != api.OK {
				t.Fatalf("Reaction: %d", e)
			}
			lasted := 0
			for i, truth := range truths {
				if lasted++; !isBeyond(x.g, limit, truth) {
					lasted = 0
				}
				if lasted >= n && out[i].Path {
					t.Fatalf("%v: the cause %d, tick %d: the path is closed", x, limit.cause, i)
				}
				if lasted == n && i > n && out[i-n].Path {
					checked++
				}
				if lasted == n && i > n && out[i-1].Path {
					needed++
				}
			}
		}
	}
	if checked < 300 || needed < 100 {
		t.Errorf("just %d paths were closed when something began, and %d one tick before the stated time", checked, needed)
	}
}

// P5.13: behind a tick with crash or water the machine has tripped, and the path is open lag ticks later, with any single fault.
func TestReactionToCrashAndWater(t *testing.T) {
	r := chance(513)
	checked := 0
	for _, x := range drawSettings(r, 25) {
		truths := fairTruths(r, x, 150, likely(r, 20), true)
		out := played(t, x.g, x.lag, x.l, truths)
		for i, truth := range truths {
			if !truth.Crash && !truth.Water {
				continue
			}
			if out[i].Cause == api.CauseNone {
				t.Fatalf("%v: tick %d: the machine has not tripped", x, i)
			}
			lasts := true
			for k := i; k < len(out) && (lasts || k <= i+x.lag); k++ {
				lasts = lasts && (truths[k].Crash || truths[k].Water)
				if out[k].Path && (k == i+x.lag || k > i+x.lag && lasts) {
					t.Fatalf("%v: crash or water at %d: the path is closed at %d", x, i, k)
				}
			}
			if i > 0 && out[i-1].Path {
				checked++
			}
		}
	}
	if checked < 500 {
		t.Errorf("just %d paths were closed before", checked)
	}
}

// P5.14: without a fault, or with a channel or a wire that is wrong, nothing trips that is within its limits by half of its spread.
func TestNoFalseAlarm(t *testing.T) {
	r := chance(514)
	closed, opened := 0, 0
	for _, x := range drawSettings(r, 40) {
		if len(x.l) > 0 && !slices.Contains([]int{api.BreakNone, api.BreakLie, api.BreakMute, api.BreakWire}, x.l[0].Kind) {
			continue
		}
		x.g.OpenTicks = x.lag + 1 + r.Intn(3)
		x.g.PreTicks = 1 + r.Intn(2)
		m, p := newMachine(t, x.g), newPlant(t, x.lag, x.l...)
		want := true
		for i := range 250 {
			if r.Intn(10) == 0 {
				want = !want
			}
			truth := within(r, x.g)
			truth.Want = want
			truth.Pack = pick(r, 0, volt, drawInt(r, 0, most))
			truth.Link = drawInt(r, -most, most)
			phase := m.Phase()
			if phase == api.GuardPre { // this step is not the first one of the precharge
				truth.Link = pick(r, truth.Pack, drawInt(r, truth.Pack, most))
			}
			a, _ := m.Step(shows(t, p, truth))
			p.Move(a)
			if m.Cause() != api.CauseNone {
				t.Fatalf("%v: tick %d: the machine has tripped with %d, by %v", x, i, m.Cause(), truth)
			}
			if p.Path() {
				closed++
			}
			if m.Phase() == api.GuardOpen && phase == api.GuardOpening {
				opened++
			}
		}
	}
	if closed < 1000 || opened < 500 {
		t.Errorf("just %d ticks with a closed path, and %d times open again", closed, opened)
	}
}

// within draws a fair truth in which all quantities are within their limits by half of their spreads, often just so.
func within(r *rand.Rand, g api.Guard) api.Truth {
	half := func(q int) int64 { return g.Spread[q] / 2 }
	high, low := g.MostVolt-half(0), g.LeastVolt+half(1)
	out, in := g.Out-half(2), half(2)-g.In
	hot, iso := g.Hot-half(3), g.LeastIso+half(4)
	return fair(r, g, api.Truth{Value: [5]int64{pick(r, high, high-1, -most), pick(r, low, low+1, most), pick(r, in, out, drawInt(r, in, out)), pick(r, hot, hot-1, -most), pick(r, iso, iso+1, most)}})
}

// P5.14: the limits themselves, in all ticks, with the errors at their ends, and a channel that shows the worst.
func TestNoFalseAlarmAtTheLimits(t *testing.T) {
	g := guard()
	for _, l := range [][]api.Break{nil, {{Kind: api.BreakLie, A: 2}}, {{Kind: api.BreakMute, A: 0}}, {{Kind: api.BreakWire, A: 1, B: true}}} {
		for _, sign := range []int64{1, -1} {
			x := calm(func(x *api.Truth) {
				x.Value = [5]int64{4190000, 2810000, 99500, 329000, 105000}
				x.Error = [3][5]int64{{10000, -10000, 500, 1000, -5000}, {-10000, 10000, -500, -1000, 5000}, {10000, -10000, 500, 1000, -5000}}
				x.Lie = [5]int64{sign * most, sign * most, sign * most, sign * most, sign * most}
			})
			if sign < 0 {
				x.Value[api.VoteCurrent] = -49500
				for i := range 3 {
					x.Error[i][api.VoteCurrent] *= -1
				}
			}
			for i, m := range played(t, g, 3, l, slices.Repeat([]api.Truth{x}, 200)) {
				if m.Cause != api.CauseNone || i > 0 && m.Phase != api.GuardClosed || i > 2 && !m.Path {
					t.Fatalf("with %v, tick %d: %v", l, i, m)
				}
			}
		}
	}
}

// P5.15: with welds the pyro fuse is fired when it is time for it, and not before; then the path is open.
func TestTwoWelds(t *testing.T) {
	r := chance(515)
	plus, minus := api.Break{Kind: api.BreakWeld, A: api.ContactPlus}, api.Break{Kind: api.BreakWeld, A: api.ContactMinus}
	opening, off := 0, 0
	for range 1500 {
		x := setting{drawGuard(r), r.Intn(4), pick(r, []api.Break{plus}, []api.Break{minus}, []api.Break{plus, minus}, []api.Break{minus, plus})}
		x.g.OpenTicks += x.lag
		var truths []api.Truth
		now := mood{}
		for range 80 {
			if r.Intn(8) == 0 {
				now = drawMood(r)
				now.current = pick[int64](r, 0, 3, -3)
			}
			truths = append(truths, api.Truth{Value: [5]int64{98, 102, now.current, 98, 102}, Link: volt, Pack: volt, Want: !likely(r, now.idle), Crash: likely(r, now.crash), Reset: likely(r, now.reset/5)})
		}
		out := played(t, x.g, x.lag, x.l, truths)
		for i := 1; i+x.g.OpenTicks < len(out); i++ {
			if out[i-1].Phase == out[i].Phase {
				continue
			}
			switch out[i].Phase {
			case api.GuardOpening:
				opening += checkOpening(t, x, out[i:], truths[i:])
			case api.GuardOff:
				off += checkOff(t, x, out[i:], truths[i:])
			}
		}
	}
	if opening < 100 || off < 20 {
		t.Errorf("the pyro fuse was fired just %d times while contactors open, and %d times behind", opening, off)
	}
}

// flows reports whether there is current in a truth that all channels show as it is.
func flows(g api.Guard, x api.Truth) bool {
	return max(x.Value[api.VoteCurrent], -x.Value[api.VoteCurrent]) > g.Leak
}

// checkOpening checks what happens from the tick on in which the phase has become GuardOpening, and returns 1 if the pyro fuse has to be fired.
func checkOpening(t *testing.T, x setting, out []api.Moment, truths []api.Truth) int {
	t.Helper()
	n := x.g.OpenTicks
	for _, m := range out[:n] {
		if m.Phase != api.GuardOpening || m.Act != (api.Act{}) {
			t.Fatalf("%v: it does not wait: %v", x, m)
		}
	}
	if out[n-1].Closed == [3]bool{} || !flows(x.g, truths[n]) {
		return 0
	}
	if m := out[n]; m.Phase != api.GuardDead || !m.Act.Fire || m.Path {
		t.Fatalf("%v: the pyro fuse is not fired: %v", x, m)
	}
	return 1
}

// checkOff checks the same from the tick on in which the phase has become GuardOff, if it is not reset.
func checkOff(t *testing.T, x setting, out []api.Moment, truths []api.Truth) int {
	t.Helper()
	n := x.g.OpenTicks
	for i := 1; i <= n; i++ {
		if !flows(x.g, truths[i]) || truths[i].Reset {
			return 0
		}
	}
	for _, m := range out[:n] {
		if m.Phase != api.GuardOff || m.Act != (api.Act{}) {
			t.Fatalf("%v: it does not wait: %v", x, m)
		}
	}
	if m := out[n]; m.Phase != api.GuardDead || !m.Act.Fire || m.Path {
		t.Fatalf("%v: the pyro fuse is not fired: %v", x, m)
	}
	return 1
}

// P5.16: behind GuardDead the phase stays, and nothing is driven; marks stay, whatever comes.
func TestDeadIsDead(t *testing.T) {
	r := chance(516)
	dead, marked := 0, 0
	for range 800 {
		m, now := newMachine(t, drawGuard(r)), mood{}
		var bad [3]bool
		isDead := false
		for range 100 {
			if r.Intn(6) == 0 {
				now = drawMood(r)
			}
			s := drawSignals(r, now, m.Act().Drive)
			if r.Intn(10) == 0 {
				s.Channels = drawChannels(r)
			}
			a, _ := m.Step(s)
			if isDead && (m.Phase() != api.GuardDead || a != api.Act{Fire: true}) {
				t.Fatalf("behind GuardDead: %d, %v", m.Phase(), a)
			}
			for i := range bad {
				if bad[i] && !m.Bad()[i] {
					t.Fatalf("the mark of the channel %d has gone away", i)
				}
			}
			bad, isDead = m.Bad(), m.Phase() == api.GuardDead
		}
		if isDead {
			dead++
		}
		marked += count(bad)
	}
	if dead < 100 || marked < 100 {
		t.Errorf("just %d machines are dead, and %d channels marked", dead, marked)
	}
}
