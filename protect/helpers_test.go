package protect_test

import (
	"math"
	"math/rand"
	"testing"

	"coulomb/api"
	"coulomb/protect"
)

const (
	most = api.MaxQuantity
	volt = 400000000 // the voltage of the pack, if a test does not say another one
)

// change changes a value that is made.
type change[T any] func(x *T)

// made makes a value of changes.
func made[T any](x T, changes []change[T]) T {
	for _, c := range changes {
		c(&x)
	}
	return x
}

// guard is the guard of the chapter's examples, changed.
func guard(changes ...change[api.Guard]) api.Guard {
	return made(api.Guard{
		MostVolt: 4200000, LeastVolt: 2800000, Out: 100000, In: 50000, Hot: 330000, LeastIso: 100000, Spread: [5]int64{20000, 20000, 1000, 2000, 10000},
		Debounce: [7]int{3, 3, 3, 3, 3, 3, 3}, PrePart: 58982, PreTicks: 5, OpenTicks: 4, Leak: 2000,
	}, changes)
}

// debounced changes all of Debounce.
func debounced(ticks ...int) change[api.Guard] {
	return func(g *api.Guard) {
		for i := range g.Debounce {
			g.Debounce[i] = ticks[i%len(ticks)]
		}
	}
}

// opens changes OpenTicks.
func opens(ticks int) change[api.Guard] { return func(g *api.Guard) { g.OpenTicks = ticks } }

// pres changes PrePart and PreTicks.
func pres(part int64, ticks int) change[api.Guard] {
	return func(g *api.Guard) { g.PrePart, g.PreTicks = part, ticks }
}

// leaks changes Leak.
func leaks(leak int64) change[api.Guard] { return func(g *api.Guard) { g.Leak = leak } }

// spread changes how far the channels are apart at most in a quantity.
func spread(quantity int, by int64) change[api.Guard] {
	return func(g *api.Guard) { g.Spread[quantity] = by }
}

// good is what the good channels of the chapter's examples show.
func good() [5]int64 { return [5]int64{4000000, 3900000, 10000, 300000, 500000} }

// signals are those of good channels of a pack that gives no current, and whose contactors are to be closed, changed.
func signals(changes ...change[api.Signals]) api.Signals {
	s := api.Signals{Link: volt, Pack: volt, Want: true}
	for i := range s.Channels {
		s.Channels[i] = api.Channel{Has: true, Value: good()}
		s.Channels[i].Value[api.VoteCurrent] = 0
	}
	return made(s, changes)
}

// show changes what the channels show of a quantity: the first numbers by channel, and the last one in all others.
func show(quantity int, numbers ...int64) change[api.Signals] {
	return func(s *api.Signals) {
		for i := range s.Channels {
			s.Channels[i].Value[quantity] = numbers[min(i, len(numbers)-1)]
		}
	}
}

// mute lets some channels show nothing.
func mute(l ...int) change[api.Signals] {
	return func(s *api.Signals) {
		for _, i := range l {
			s.Channels[i] = api.Channel{}
		}
	}
}

// back changes which contactors report that they are closed.
func back(l ...int) change[api.Signals] { return func(s *api.Signals) { s.Back = wires(l...) } }

// crash and water change on which wires there is a crash, and water.
func crash(l ...int) change[api.Signals] { return func(s *api.Signals) { s.Crash = wires(l...) } }
func water(l ...int) change[api.Signals] { return func(s *api.Signals) { s.Water = wires(l...) } }

// linked changes the voltages of the link and the pack.
func linked(link, pack int64) change[api.Signals] {
	return func(s *api.Signals) { s.Link, s.Pack = link, pack }
}

// idle lets the contactors not be wanted any more, and reset asks for a reset.
func idle(s *api.Signals)  { s.Want = false }
func reset(s *api.Signals) { s.Reset = true }

// wires are those of three that are listed.
func wires(l ...int) [3]bool {
	var w [3]bool
	for _, i := range l {
		w[i] = true
	}
	return w
}

// allThree are all ways in which three can be true or not.
func allThree() [][3]bool {
	var l [][3]bool
	for n := range 8 {
		l = append(l, [3]bool{n&1 > 0, n&2 > 0, n&4 > 0})
	}
	return l
}

// count counts which of three are true.
func count(w [3]bool) int {
	n := 0
	for _, so := range w {
		if so {
			n++
		}
	}
	return n
}

// both are some changes as one.
func both[T any](changes ...change[T]) change[T] {
	return func(x *T) {
		for _, c := range changes {
			c(x)
		}
	}
}

// beyond are the changes with which just the condition of a cause holds, one by one from 1 to 7.
func beyond(cause int) change[api.Signals] {
	g := guard()
	return [8]change[api.Signals]{
		api.CauseOver:   show(api.VoteHigh, g.MostVolt+1),
		api.CauseUnder:  show(api.VoteLow, g.LeastVolt-1),
		api.CauseOut:    show(api.VoteCurrent, g.Out+1),
		api.CauseIn:     show(api.VoteCurrent, -g.In-1),
		api.CauseHot:    show(api.VoteTemp, g.Hot+1),
		api.CauseIso:    show(api.VoteIso, g.LeastIso-1),
		api.CauseSensor: both(mute(2), show(api.VoteTemp, 300000, 302001)),
	}[cause]
}

// actOf is the act of a step, by the phase behind it.
func actOf(phase int) api.Act {
	return [6]api.Act{
		api.GuardPre:    {Drive: wires(api.ContactMinus, api.ContactPre)},
		api.GuardClosed: {Drive: wires(api.ContactPlus, api.ContactMinus)},
		api.GuardDead:   {Fire: true},
	}[phase]
}

// newMachine makes a machine.
func newMachine(t *testing.T, g api.Guard) *protect.Machine {
	t.Helper()
	m, e := protect.NewMachine(g)
	if e != api.OK || m == nil {
		t.Fatalf("NewMachine: %v, %d", m, e)
	}
	return m
}

// newPlant makes a plant.
func newPlant(t *testing.T, lag int, l ...api.Break) *protect.Plant {
	t.Helper()
	p, e := protect.NewPlant(lag, l)
	if e != api.OK || p == nil {
		t.Fatalf("NewPlant: %v, %d", p, e)
	}
	return p
}

// step is some steps with the same signals, and the phase and the cause behind each of them.
type step struct {
	times        int
	s            api.Signals
	phase, cause int
}

// follow lets a machine do steps.
func follow(t *testing.T, m *protect.Machine, steps ...step) {
	t.Helper()
	for i, x := range steps {
		for n := range x.times {
			a, e := m.Step(x.s)
			if e != api.OK || m.Phase() != x.phase || m.Cause() != x.cause || a != actOf(x.phase) || m.Act() != a {
				t.Fatalf("line %d of the steps, time %d: phase %d, cause %d, %v, %d, not %d, %d", i+1, n+1, m.Phase(), m.Cause(), a, e, x.phase, x.cause)
			}
		}
	}
}

// brought makes a machine, and brings it to a phase without a cause, if there are such ones, and otherwise with CauseCrash. It has done all steps with good channels.
func brought(t *testing.T, g api.Guard, phase int) *protect.Machine {
	t.Helper()
	m := newMachine(t, g)
	pre := step{1, signals(linked(0, volt)), api.GuardPre, api.CauseNone}
	off := step{1, signals(crash(0, 1), idle), api.GuardOff, api.CauseCrash}
	switch phase {
	case api.GuardPre:
		follow(t, m, pre)
	case api.GuardClosed:
		follow(t, m, pre, step{1, signals(), api.GuardClosed, api.CauseNone})
	case api.GuardOpening:
		follow(t, m, pre, step{1, signals(idle), api.GuardOpening, api.CauseNone})
	case api.GuardOff:
		follow(t, m, off)
	case api.GuardDead:
		current := signals(show(api.VoteCurrent, g.Leak+1), idle)
		follow(t, m, off, step{g.OpenTicks - 1, current, api.GuardOff, api.CauseCrash}, step{1, current, api.GuardDead, api.CauseCrash})
	}
	return m
}

// chance is a source of numbers that are always the same.
func chance(seed int64) *rand.Rand { return rand.New(rand.NewSource(seed)) }

// pick draws one of some values.
func pick[T any](r *rand.Rand, l ...T) T { return l[r.Intn(len(l))] }

// drawNumber draws any number: one of an edge, or one of a size that is drawn first.
func drawNumber(r *rand.Rand) int64 {
	if r.Intn(4) == 0 {
		return pick[int64](r, math.MinInt64, math.MinInt64+1, -most-1, -most, -1, 0, 1, most, most+1, math.MaxInt64-1, math.MaxInt64)
	}
	return drawInt(r, -1<<r.Intn(62), 1<<r.Intn(62))
}

// drawInt draws a number from lo to hi.
func drawInt(r *rand.Rand, lo, hi int64) int64 { return lo + r.Int63n(hi-lo+1) }

// drawGuard draws a guard with limits that are near to 100, so that numbers that are near to it are on both sides of each of them.
func drawGuard(r *rand.Rand) api.Guard {
	g := api.Guard{
		MostVolt: drawInt(r, 100, 104), LeastVolt: drawInt(r, 96, 100), Out: drawInt(r, 3, 6), In: drawInt(r, 3, 6), Hot: drawInt(r, 100, 104), LeastIso: drawInt(r, 96, 100),
		PrePart: drawInt(r, 1, 65536), PreTicks: 1 + r.Intn(4), OpenTicks: 1 + r.Intn(4), Leak: drawInt(r, 0, 2),
	}
	for i := range g.Spread {
		g.Spread[i] = drawInt(r, 0, 4)
	}
	for i := range g.Debounce {
		g.Debounce[i] = 1 + r.Intn(4)
	}
	return g
}

// singles are all single faults, and none.
func singles() [][]api.Break {
	l := [][]api.Break{nil}
	for a := range 3 {
		for _, kind := range []int{api.BreakLie, api.BreakMute, api.BreakWeld, api.BreakStuck, api.BreakWire, api.BreakBack} {
			l = append(l, []api.Break{{Kind: kind, A: a}})
		}
		l = append(l, []api.Break{{Kind: api.BreakWire, A: a, B: true}}, []api.Break{{Kind: api.BreakBack, A: a, B: true}})
	}
	return append(l, []api.Break{{Kind: api.BreakNone}})
}
