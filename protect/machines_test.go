package protect_test

import (
	"math"
	"testing"

	"coulomb/api"
	"coulomb/protect"
)

// current lets the channels show a current.
func current(x int64) change[api.Signals] { return show(api.VoteCurrent, x) }

// P5.5 to P5.7: what a new machine is.
func TestNewMachine(t *testing.T) {
	for _, g := range validGuards() {
		m := newMachine(t, g)
		if m.Phase() != api.GuardOpen || m.Cause() != api.CauseNone || m.Bad() != [3]bool{} || m.Act() != (api.Act{}) {
			t.Errorf("a machine with %v: %d, %d, %v, %v", g, m.Phase(), m.Cause(), m.Bad(), m.Act())
		}
	}
	for _, g := range wildGuards() {
		if m, e := protect.NewMachine(g); m != nil || e != api.ErrArg {
			t.Errorf("NewMachine with %v: %v, %d", g, m, e)
		}
	}
}

// P5.6: the table of the chapter's examples.
func TestExampleOfSteps(t *testing.T) {
	given := current(10000)
	hot := show(api.VoteTemp, 331000)
	main := back(api.ContactPlus, api.ContactMinus)
	follow(t, newMachine(t, guard()),
		step{1, signals(given), api.GuardPre, api.CauseNone},
		step{1, signals(given, linked(0, volt)), api.GuardPre, api.CauseNone},
		step{1, signals(given), api.GuardClosed, api.CauseNone},
		step{2, signals(given, main, hot), api.GuardClosed, api.CauseNone},
		step{1, signals(given, main, hot), api.GuardOpening, api.CauseHot},
		step{1, signals(given, main, hot), api.GuardOpening, api.CauseHot},
		step{2, signals(given, hot), api.GuardOpening, api.CauseHot},
		step{1, signals(given, hot), api.GuardOff, api.CauseHot},
		step{1, signals(given, reset), api.GuardOpen, api.CauseNone})
}

// P5.6: in GuardOpen.
func TestOpen(t *testing.T) {
	g := guard(debounced(1))
	follow(t, newMachine(t, g), step{20, signals(idle), api.GuardOpen, api.CauseNone}, step{1, signals(), api.GuardPre, api.CauseNone})
	follow(t, newMachine(t, g), step{20, signals(idle, back(0, 1, 2), reset, current(9000)), api.GuardOpen, api.CauseNone}, step{1, signals(reset), api.GuardPre, api.CauseNone})
	follow(t, newMachine(t, g), step{1, signals(linked(0, most)), api.GuardPre, api.CauseNone})
	for _, w := range allThree()[1:] {
		closed := func(s *api.Signals) { s.Back = w }
		follow(t, newMachine(t, g), step{1, signals(closed), api.GuardOff, api.CauseWeld})
		follow(t, newMachine(t, g), step{1, signals(closed, idle), api.GuardOpen, api.CauseNone}, step{1, signals(), api.GuardPre, api.CauseNone})
		follow(t, newMachine(t, g), step{1, signals(closed, crash(0, 2)), api.GuardOff, api.CauseCrash}) // it has tripped already
		follow(t, newMachine(t, g), step{1, signals(closed, beyond(api.CauseHot)), api.GuardOff, api.CauseHot})
	}
	for _, c := range []change[api.Signals]{idle, func(*api.Signals) {}} {
		follow(t, newMachine(t, g), step{1, signals(c, water(1, 2)), api.GuardOff, api.CauseWater})
		follow(t, newMachine(t, g), step{1, signals(c, beyond(api.CauseIso)), api.GuardOff, api.CauseIso})
	}
}

// P5.6: in GuardPre; with PreTicks as many steps may show too little behind the first one, less by 1.
func TestPrecharge(t *testing.T) {
	low := linked(0, volt)
	for ticks := 1; ticks <= 100; ticks += 1 + ticks/7 {
		g := guard(pres(58982, ticks))
		wait := step{ticks - 1, signals(low), api.GuardPre, api.CauseNone}
		follow(t, brought(t, g, api.GuardPre), wait, step{1, signals(low), api.GuardOpening, api.CausePre})
		follow(t, brought(t, g, api.GuardPre), wait, step{1, signals(), api.GuardClosed, api.CauseNone})
		follow(t, brought(t, g, api.GuardPre), wait, step{1, signals(low, idle), api.GuardOpening, api.CauseNone})
		again := []step{wait, {1, signals(idle), api.GuardOpening, api.CauseNone}, {3, signals(), api.GuardOpening, api.CauseNone}, {1, signals(), api.GuardOpen, api.CauseNone}, {1, signals(), api.GuardPre, api.CauseNone}}
		follow(t, brought(t, g, api.GuardPre), append(append(again, again...), wait, step{1, signals(low), api.GuardOpening, api.CausePre})...)
	}
	follow(t, brought(t, guard(), api.GuardPre), step{1, signals(idle), api.GuardOpening, api.CauseNone})
	follow(t, brought(t, guard(), api.GuardPre), step{1, signals(back(0, 1, 2), reset), api.GuardClosed, api.CauseNone})
	for _, c := range []change[api.Signals]{low, linked(volt, volt), idle} {
		follow(t, brought(t, guard(), api.GuardPre), step{1, signals(c, crash(0, 1)), api.GuardOpening, api.CauseCrash})
		follow(t, brought(t, guard(pres(1, 1)), api.GuardPre), step{1, signals(c, water(0, 1)), api.GuardOpening, api.CauseWater})
	}
}

// P5.6: when the link is charged.
func TestWhenTheLinkIsCharged(t *testing.T) {
	for _, x := range []struct{ part, pack, link int64 }{ // just enough in the link
		{65536, volt, volt},
		{58982, 65536, 58982},
		{58982, volt, 359997559}, // 359,997,558.59
		{1, 1, 1},
		{1, 65536, 1},
		{1, 65537, 2},
		{65535, 65537, 65536},
		{32768, 7, 4},
		{58982, 0, 0},
		{65536, most, most},
		{1, most, 16777216},
		{65535, most, most - 16777216},
		{65536, -1, -1},
		{1, -1, 0},
		{32768, -3, -1},
		{65535, -65537, -65535},
		{65536, -most, -most},
		{1, -most, -16777216},
	} {
		g := guard(pres(x.part, 3))
		low := step{1, signals(linked(x.link-1, x.pack)), api.GuardPre, api.CauseNone}
		if x.link > -most {
			follow(t, brought(t, g, api.GuardPre), low, low, step{1, low.s, api.GuardOpening, api.CausePre})
		}
		follow(t, brought(t, g, api.GuardPre), step{1, signals(linked(x.link, x.pack)), api.GuardClosed, api.CauseNone})
		if x.link < most {
			follow(t, brought(t, g, api.GuardPre), step{1, signals(linked(x.link+1, x.pack)), api.GuardClosed, api.CauseNone})
		}
	}
	follow(t, brought(t, guard(), api.GuardPre), step{1, signals(linked(most, -most)), api.GuardClosed, api.CauseNone})
	follow(t, brought(t, guard(), api.GuardPre), step{1, signals(linked(-most, most)), api.GuardPre, api.CauseNone})
}

// P5.6: in GuardClosed.
func TestClosed(t *testing.T) {
	main := back(api.ContactPlus, api.ContactMinus)
	well := step{30, signals(main), api.GuardClosed, api.CauseNone}
	follow(t, brought(t, guard(), api.GuardClosed), well, step{1, signals(main, linked(0, volt), back(0, 1, 2), reset), api.GuardClosed, api.CauseNone}, well, step{1, signals(main, idle), api.GuardOpening, api.CauseNone})
	for _, ticks := range []int{1, 2, 3, 4, 17, 100} {
		g := guard(opens(ticks))
		for _, w := range allThree() {
			missing := signals(func(s *api.Signals) { s.Back = w })
			if w[api.ContactPlus] && w[api.ContactMinus] {
				follow(t, brought(t, g, api.GuardClosed), step{2*ticks + 2, missing, api.GuardClosed, api.CauseNone})
				continue
			}
			some := step{ticks, missing, api.GuardClosed, api.CauseNone}
			follow(t, brought(t, g, api.GuardClosed), some, step{1, missing, api.GuardOpening, api.CauseBack})
			follow(t, brought(t, g, api.GuardClosed), some, step{1, signals(main), api.GuardClosed, api.CauseNone}, some, step{1, missing, api.GuardOpening, api.CauseBack})
			last := missing
			last.Want = false
			follow(t, brought(t, g, api.GuardClosed), some, step{1, last, api.GuardOpening, api.CauseBack})
			last.Crash = wires(0, 1)
			follow(t, brought(t, g, api.GuardClosed), some, step{1, last, api.GuardOpening, api.CauseCrash})
		}
	}
	for _, c := range []change[api.Signals]{main, both(main, idle)} {
		follow(t, brought(t, guard(), api.GuardClosed), well, step{1, signals(c, crash(1, 2)), api.GuardOpening, api.CauseCrash})
	}
}

// P5.6: the reports that are missing are counted anew when the contactors are closed again.
func TestMissingReportsAreCountedAnew(t *testing.T) {
	missing := step{4, signals(), api.GuardClosed, api.CauseNone}
	follow(t, brought(t, guard(), api.GuardClosed), missing,
		step{1, signals(idle, back(0, 1)), api.GuardOpening, api.CauseNone}, step{3, signals(), api.GuardOpening, api.CauseNone}, step{1, signals(), api.GuardOpen, api.CauseNone},
		step{1, signals(), api.GuardPre, api.CauseNone}, step{1, signals(), api.GuardClosed, api.CauseNone}, missing, step{1, signals(), api.GuardOpening, api.CauseBack})
	follow(t, brought(t, guard(), api.GuardClosed), missing, // it stops with the counter at 4
		step{1, signals(crash(0, 1), back(0)), api.GuardOpening, api.CauseCrash}, step{3, signals(), api.GuardOpening, api.CauseCrash}, step{1, signals(), api.GuardOff, api.CauseCrash},
		step{1, signals(reset), api.GuardOpen, api.CauseNone}, step{1, signals(), api.GuardPre, api.CauseNone}, step{1, signals(), api.GuardClosed, api.CauseNone}, missing, step{1, signals(), api.GuardOpening, api.CauseBack})
}

// P5.6: in GuardOpening; both ways of a weld.
func TestOpening(t *testing.T) {
	for _, ticks := range []int{1, 2, 3, 4, 23, 100} {
		g := guard(opens(ticks))
		for _, w := range allThree() {
			closed := func(s *api.Signals) { s.Back = w }
			for _, x := range []int64{0, 1, -1, 1999, -1999, 2000, -2000, 2001, -2001, 9000, -9000} {
				before := step{ticks - 1, signals(closed, current(x)), api.GuardOpening, api.CauseNone}
				behind := step{1, signals(closed, current(x)), api.GuardOpen, api.CauseNone}
				switch {
				case w != [3]bool{} && max(x, -x) > 2000:
					behind.phase = api.GuardDead
				case w != [3]bool{}:
					behind.phase, behind.cause = api.GuardOff, api.CauseWeld
				}
				follow(t, brought(t, g, api.GuardOpening), before, behind)
				tripped := brought(t, g, api.GuardClosed)
				follow(t, tripped, step{1, signals(crash(0, 1)), api.GuardOpening, api.CauseCrash})
				before.cause, behind.cause = api.CauseCrash, api.CauseCrash
				if behind.phase == api.GuardOpen {
					behind.phase = api.GuardOff
				}
				follow(t, tripped, before, behind)
			}
		}
	}
}

// P5.6: what does not count in GuardOpening before the time, and what trips.
func TestBeforeItIsOpen(t *testing.T) {
	closed := step{3, signals(back(0, 1, 2), current(9000), reset), api.GuardOpening, api.CauseNone}
	follow(t, brought(t, guard(), api.GuardOpening), closed, step{1, signals(current(9000)), api.GuardOpen, api.CauseNone}, step{1, signals(), api.GuardPre, api.CauseNone})
	follow(t, brought(t, guard(), api.GuardOpening), closed, step{1, signals(idle), api.GuardOpen, api.CauseNone})
	follow(t, brought(t, guard(), api.GuardOpening), closed, step{1, signals(water(0, 1)), api.GuardOff, api.CauseWater})
	follow(t, brought(t, guard(), api.GuardOpening), closed, step{1, signals(water(0, 1), back(1)), api.GuardOff, api.CauseWater})
	follow(t, brought(t, guard(), api.GuardOpening), closed, step{1, signals(water(0, 1), back(1), current(2001)), api.GuardDead, api.CauseWater})
	hot := signals(beyond(api.CauseHot))
	follow(t, brought(t, guard(), api.GuardOpening), step{2, hot, api.GuardOpening, api.CauseNone}, step{1, hot, api.GuardOpening, api.CauseHot}, step{1, signals(), api.GuardOff, api.CauseHot})
	follow(t, brought(t, guard(), api.GuardOpening), step{1, signals(), api.GuardOpening, api.CauseNone}, step{2, hot, api.GuardOpening, api.CauseNone}, step{1, hot, api.GuardOff, api.CauseHot})
}

// P5.6: there is current if one vote is beyond the leak, and none without votes.
func TestCurrent(t *testing.T) {
	for _, x := range []struct {
		s       api.Signals
		leak    int64
		current bool
	}{
		{signals(current(2001)), 2000, true}, {signals(current(2000)), 2000, false}, {signals(current(-2001)), 2000, true}, {signals(current(-2000)), 2000, false},
		{signals(current(1)), 0, true}, {signals(current(-1)), 0, true}, {signals(current(0)), 0, false},
		{signals(current(math.MaxInt64)), most, true}, {signals(current(math.MinInt64)), most, true}, {signals(current(most)), most, false}, {signals(current(-most)), most, false},
		{signals(show(api.VoteCurrent, 2000, 2001, 2000)), 2000, false}, {signals(show(api.VoteCurrent, 2001, 0, 2001)), 2000, true}, {signals(show(api.VoteCurrent, -9000, 0, 9000)), 2000, false},
		{signals(mute(0), show(api.VoteCurrent, 0, 2000, 2001)), 2000, true}, {signals(mute(1), show(api.VoteCurrent, -2001, 0, -2000)), 2000, true},
		{signals(mute(2), show(api.VoteCurrent, 2000, 1000)), 2000, false}, {signals(mute(2), show(api.VoteCurrent, 3000, 2000)), 2000, true}, {signals(mute(2), show(api.VoteCurrent, -2000, -3000)), 2000, true},
		{signals(mute(2), show(api.VoteCurrent, 9000, 10001)), 2000, false}, {signals(mute(0, 1), current(9000)), 2000, false}, {signals(mute(0, 1, 2)), 0, false},
	} {
		x.s.Back, x.s.Want = wires(api.ContactMinus), false
		g := guard(leaks(x.leak), opens(1), debounced(100))
		want := step{1, x.s, api.GuardOff, api.CauseWeld}
		if x.current {
			want.phase, want.cause = api.GuardDead, api.CauseNone
		}
		follow(t, brought(t, g, api.GuardOpening), want)
		off := step{1, x.s, api.GuardOff, api.CauseCrash}
		if x.current {
			off.phase = api.GuardDead
		}
		follow(t, brought(t, g, api.GuardOff), off)
	}
}

// P5.6: in GuardOff current fires the pyro fuse, if it lasts without a break.
func TestOff(t *testing.T) {
	for _, ticks := range []int{1, 2, 3, 4, 23, 100} {
		g := guard(opens(ticks))
		for _, x := range []int64{2001, -2001, 50000} {
			flows := step{ticks - 1, signals(current(x)), api.GuardOff, api.CauseCrash}
			dead := step{1, signals(current(x)), api.GuardDead, api.CauseCrash}
			calm := step{1, signals(current(2000)), api.GuardOff, api.CauseCrash}
			follow(t, brought(t, g, api.GuardOff), calm, flows, dead)
			follow(t, brought(t, g, api.GuardOff), flows, calm, flows, calm, calm, flows, dead)
			last := dead
			last.s.Reset = true
			follow(t, brought(t, g, api.GuardOff), flows, last)
		}
	}
	waits := brought(t, guard(opens(5)), api.GuardClosed) // the timer is 0 when it is off, and not that of GuardOpening
	follow(t, waits, step{1, signals(crash(0, 1)), api.GuardOpening, api.CauseCrash}, step{4, signals(current(9000)), api.GuardOpening, api.CauseCrash},
		step{1, signals(current(9000)), api.GuardOff, api.CauseCrash}, step{4, signals(current(9000)), api.GuardOff, api.CauseCrash}, step{1, signals(current(9000)), api.GuardDead, api.CauseCrash})
	welded := brought(t, guard(opens(5)), api.GuardOpening)
	follow(t, welded, step{4, signals(), api.GuardOpening, api.CauseNone}, step{1, signals(back(0)), api.GuardOff, api.CauseWeld},
		step{4, signals(current(9000)), api.GuardOff, api.CauseWeld}, step{1, signals(current(9000), reset), api.GuardDead, api.CauseWeld})
	follow(t, brought(t, guard(), api.GuardOff), step{20, signals(back(0, 1, 2)), api.GuardOff, api.CauseCrash}, step{20, signals(idle), api.GuardOff, api.CauseCrash})
}

// P5.6: a reset, and what it needs.
func TestReset(t *testing.T) {
	g := guard(debounced(100))
	open := step{1, signals(reset), api.GuardOpen, api.CauseNone}
	follow(t, brought(t, g, api.GuardOff), open, step{1, signals(reset), api.GuardPre, api.CauseNone})
	follow(t, brought(t, g, api.GuardOff), step{1, signals(reset, idle, back(0, 1, 2), linked(-1, 5)), api.GuardOpen, api.CauseNone}, step{1, signals(idle), api.GuardOpen, api.CauseNone})
	for cause := 1; cause <= 7; cause++ {
		follow(t, brought(t, g, api.GuardOff), step{3, signals(beyond(cause), reset), api.GuardOff, api.CauseCrash}, open)
	}
	for _, w := range allThree() {
		want := step{1, signals(reset, func(s *api.Signals) { s.Crash = w }), api.GuardOpen, api.CauseNone}
		if count(w) >= 2 {
			want.phase, want.cause = api.GuardOff, api.CauseCrash
		}
		follow(t, brought(t, g, api.GuardOff), want)
		want.s.Crash, want.s.Water = [3]bool{}, w
		follow(t, brought(t, g, api.GuardOff), want)
	}
	follow(t, brought(t, g, api.GuardOff), step{1, signals(reset, crash(0), water(1)), api.GuardOpen, api.CauseNone})
	follow(t, brought(t, g, api.GuardOff), step{1, signals(reset, crash(0, 1, 2), water(0, 1, 2)), api.GuardOff, api.CauseCrash}, open)
	for _, phase := range []int{api.GuardPre, api.GuardClosed, api.GuardOpening} { // a cause stays until it is off
		m := brought(t, guard(), phase)
		follow(t, m, step{1, signals(reset, crash(0, 1), back(0, 1)), api.GuardOpening, api.CauseCrash}, step{2, signals(reset), api.GuardOpening, api.CauseCrash})
	}
}

// P5.6: each cause can be reset, but not CauseWeld.
func TestResetOfCauses(t *testing.T) {
	g := guard(debounced(1), opens(1), pres(58982, 1))
	open := step{1, signals(reset), api.GuardOpen, api.CauseNone}
	for cause := 1; cause <= 7; cause++ {
		follow(t, newMachine(t, g), step{1, signals(beyond(cause)), api.GuardOff, cause}, open, step{1, signals(), api.GuardPre, api.CauseNone})
	}
	follow(t, newMachine(t, g), step{1, signals(crash(0, 1)), api.GuardOff, api.CauseCrash}, open)
	follow(t, newMachine(t, g), step{1, signals(water(0, 1)), api.GuardOff, api.CauseWater}, open)
	follow(t, brought(t, g, api.GuardPre), step{1, signals(linked(0, 1)), api.GuardOpening, api.CausePre}, step{1, signals(), api.GuardOff, api.CausePre}, open)
	follow(t, brought(t, g, api.GuardClosed), step{1, signals(), api.GuardClosed, api.CauseNone}, step{1, signals(), api.GuardOpening, api.CauseBack}, step{1, signals(), api.GuardOff, api.CauseBack}, open)
	follow(t, newMachine(t, g), step{1, signals(back(2)), api.GuardOff, api.CauseWeld}, step{9, signals(reset), api.GuardOff, api.CauseWeld})
	follow(t, brought(t, g, api.GuardOpening), step{1, signals(back(1)), api.GuardOff, api.CauseWeld}, step{9, signals(reset), api.GuardOff, api.CauseWeld})
	follow(t, brought(t, g, api.GuardOpening), step{1, signals(back(1), crash(0, 1)), api.GuardOff, api.CauseCrash}, open, step{1, signals(back(1)), api.GuardOff, api.CauseWeld})
}

// P5.6: with a reset the timer is 0, but the channels have been apart for as long as before.
func TestWhatAResetLeaves(t *testing.T) {
	flows := func(times, phase, cause int) step { return step{times, signals(current(9000), idle), phase, cause} }
	follow(t, brought(t, guard(), api.GuardOff), flows(2, api.GuardOff, api.CauseCrash), step{1, signals(current(9000), reset), api.GuardOpen, api.CauseNone}, flows(9, api.GuardOpen, api.CauseNone),
		step{1, signals(current(9000), crash(0, 1)), api.GuardOff, api.CauseCrash}, flows(3, api.GuardOff, api.CauseCrash), flows(1, api.GuardDead, api.CauseCrash))
	m := brought(t, guard(), api.GuardOff)
	follow(t, m, step{2, signals(mute(1)), api.GuardOff, api.CauseCrash}, step{1, signals(mute(1), reset), api.GuardOpen, api.CauseNone})
	checkBad(t, m, 1)
	n := brought(t, guard(), api.GuardOff)
	follow(t, n, step{1, signals(mute(1)), api.GuardOff, api.CauseCrash}, step{1, signals(mute(1), reset), api.GuardOpen, api.CauseNone})
	checkBad(t, n)
	follow(t, n, step{1, signals(mute(1)), api.GuardPre, api.CauseNone})
	checkBad(t, n, 1)
}

// checkBad checks which channels are marked as bad.
func checkBad(t *testing.T, m *protect.Machine, l ...int) {
	t.Helper()
	if m.Bad() != wires(l...) {
		t.Errorf("marked as bad: %v, not %v", m.Bad(), l)
	}
}

// P5.6, P5.16: behind GuardDead there is nothing but it; causes and marks can still come.
func TestDead(t *testing.T) {
	for _, s := range []api.Signals{signals(), signals(idle), signals(reset), signals(reset, idle), signals(back(0, 1, 2)), signals(current(9000), reset), signals(linked(0, 0)), signals(mute(0, 1), reset), signals(crash(0, 1, 2), reset)} {
		follow(t, brought(t, guard(), api.GuardDead), step{20, s, api.GuardDead, api.CauseCrash}, step{20, signals(reset), api.GuardDead, api.CauseCrash})
	}
	dead := step{1, signals(idle, back(0), current(9000)), api.GuardDead, api.CauseNone}
	for cause := 1; cause <= 7; cause++ {
		m := brought(t, guard(opens(1)), api.GuardOpening)
		follow(t, m, dead, step{2, signals(beyond(cause)), api.GuardDead, api.CauseNone}, step{1, signals(beyond(cause)), api.GuardDead, cause}, step{9, signals(reset), api.GuardDead, cause})
	}
	m := brought(t, guard(opens(1)), api.GuardOpening)
	follow(t, m, dead, step{9, signals(back(0, 1, 2), reset), api.GuardDead, api.CauseNone}, step{1, signals(water(0, 2)), api.GuardDead, api.CauseWater})
	follow(t, m, step{2, signals(mute(0)), api.GuardDead, api.CauseWater})
	checkBad(t, m)
	follow(t, m, step{1, signals(mute(0)), api.GuardDead, api.CauseWater})
	checkBad(t, m, 0)
}

// P5.6, R1, R2: voltages that are no quantities; nothing has changed then.
func TestErrorsOfStep(t *testing.T) {
	for phase := range 6 {
		for _, x := range []int64{most + 1, -most - 1, math.MinInt64, math.MaxInt64} {
			for _, c := range []change[api.Signals]{linked(x, 0), linked(0, x), linked(x, x), linked(volt, x)} {
				m := brought(t, guard(debounced(2)), phase)
				want := m.Copy()
				s := signals(c, crash(0, 1, 2), beyond(api.CauseHot), idle)
				for range 3 {
					if a, e := m.Step(s); a != (api.Act{}) || e != api.ErrArg {
						t.Errorf("Step in the phase %d with %d and %d: %v, %d", phase, s.Link, s.Pack, a, e)
					}
				}
				checkSame(t, m, want)
			}
		}
		m := brought(t, guard(pres(1, 100)), phase)
		for _, x := range []int64{most, -most} {
			for _, y := range []int64{most, -most} {
				if _, e := m.Step(signals(linked(x, y))); e != api.OK {
					t.Errorf("Step with %d and %d: %d", x, y, e)
				}
			}
		}
	}
}

// checkSame checks that two machines tell the same, and do so for some steps.
func checkSame(t *testing.T, a, b *protect.Machine) {
	t.Helper()
	for i := range 14 {
		if a.Phase() != b.Phase() || a.Cause() != b.Cause() || a.Bad() != b.Bad() || a.Act() != b.Act() {
			t.Errorf("machines are not the same, %d steps later: %d, %d, %v and %d, %d, %v", i, a.Phase(), a.Cause(), a.Bad(), b.Phase(), b.Cause(), b.Bad())
		}
		s := signals(mute(i%3), beyond(1+i/2%7), current(int64(i%5)*1500))
		s.Back, s.Want, s.Reset = allThree()[i*5%8], i%4 != 3, i%3 == 1
		actA, eA := a.Step(s)
		actB, eB := b.Step(s)
		if actA != actB || eA != eB {
			t.Errorf("machines do not do the same, %d steps later: %v, %d and %v, %d", i, actA, eA, actB, eB)
		}
	}
}
