package protect_test

import (
	"testing"

	"coulomb/api"
)

// distinct is a guard whose debounces are all different.
func distinct() api.Guard { return guard(debounced(2, 9, 4, 7, 3, 8, 5)) }

// P5.6: a condition trips when it has held for as many ticks as its debounce, and not before.
func TestDebounce(t *testing.T) {
	for _, g := range []api.Guard{distinct(), guard(debounced(1)), guard(debounced(100)), guard(debounced(3, 1, 100, 2))} {
		for cause := 1; cause <= 7; cause++ {
			ticks := g.Debounce[cause-1]
			s := signals(beyond(cause), idle)
			before := step{ticks - 1, s, api.GuardOpen, api.CauseNone}
			trip := step{1, s, api.GuardOff, cause}
			calm := step{1, signals(idle), api.GuardOpen, api.CauseNone}
			follow(t, newMachine(t, g), before, trip)
			follow(t, newMachine(t, g), before, calm, before, calm, before, trip)
			other := step{1, signals(beyond(1+cause%6), idle), api.GuardOpen, api.CauseNone}
			if g.Debounce[cause%6] > 1 {
				follow(t, newMachine(t, g), before, other, before, trip)
			}
		}
	}
}

// P5.6: the same while the contactors are closed, and while a machine is off.
func TestDebounceInPhases(t *testing.T) {
	g := distinct()
	for cause := 1; cause <= 7; cause++ {
		ticks := g.Debounce[cause-1]
		s := signals(beyond(cause), back(0, 1))
		follow(t, brought(t, g, api.GuardClosed), step{ticks - 1, s, api.GuardClosed, api.CauseNone}, step{1, s, api.GuardOpening, cause})
		follow(t, brought(t, guard(debounced(2, 9, 4, 7, 3, 8, 5), pres(65536, 100)), api.GuardPre), step{ticks - 1, signals(beyond(cause), linked(0, 1)), api.GuardPre, api.CauseNone}, step{1, s, api.GuardOpening, cause})
		off := signals(beyond(cause))
		calm := step{1, signals(reset, idle), api.GuardOpen, api.CauseNone}
		m := brought(t, guard(debounced(2, 9, 4, 7, 3, 8, 5), opens(100)), api.GuardOff) // it does not trip again
		follow(t, m, step{ticks + 2, off, api.GuardOff, api.CauseCrash})
		if cause == api.CauseSensor { // a channel is bad now
			calm.s.Channels[2] = calm.s.Channels[0]
		}
		follow(t, m, calm, step{1, signals(idle), api.GuardOpen, api.CauseNone})
	}
}

// P5.6: one tick of crash, or of water, on two wires.
func TestCrashAndWater(t *testing.T) {
	for _, c := range allThree() {
		for _, w := range allThree() {
			s := signals(idle, func(s *api.Signals) { s.Crash, s.Water = c, w })
			want := step{1, s, api.GuardOpen, api.CauseNone}
			switch {
			case count(c) >= 2:
				want.phase, want.cause = api.GuardOff, api.CauseCrash
			case count(w) >= 2:
				want.phase, want.cause = api.GuardOff, api.CauseWater
			}
			follow(t, newMachine(t, guard(debounced(100))), want)
		}
	}
	one := step{50, signals(crash(0), water(2), idle), api.GuardOpen, api.CauseNone}
	follow(t, newMachine(t, guard()), one, step{50, signals(crash(1), water(2), idle), api.GuardOpen, api.CauseNone}, one)
}

// together are signals in which two conditions hold, and a guard with which they can.
func together(a, b int) (api.Signals, api.Guard) {
	g := guard(spread(api.VoteCurrent, 200000), opens(100))
	s := signals(beyond(a), beyond(b), idle)
	switch {
	case a == api.CauseOut && b == api.CauseIn:
		s = signals(mute(1), show(api.VoteCurrent, -50001, 0, 100001), idle)
	case b == api.CauseSensor && a != api.CauseHot:
		s = signals(beyond(a), mute(2), show(api.VoteTemp, 300000, 302001), idle)
	case b == api.CauseSensor:
		s = signals(beyond(a), mute(2), show(api.VoteIso, 500000, 510001), idle)
	}
	return s, g
}

// P5.6, R9: of several causes it is the first one, and then stays it.
func TestOrderOfCauses(t *testing.T) {
	for a := 1; a <= 7; a++ {
		for b := a + 1; b <= 7; b++ {
			s, g := together(a, b)
			follow(t, newMachine(t, g), step{2, s, api.GuardOpen, api.CauseNone}, step{1, s, api.GuardOff, a}, step{9, s, api.GuardOff, a})
			g.Debounce[a-1] = 4 // the other one comes earlier
			follow(t, newMachine(t, g), step{2, s, api.GuardOpen, api.CauseNone}, step{1, s, api.GuardOff, b}, step{9, s, api.GuardOff, b})
		}
	}
	for a := 1; a < 7; a++ {
		s, g := together(a, 7)
		s.Crash, s.Water = wires(0, 1), wires(1, 2)
		g.Debounce[a-1] = 1
		follow(t, newMachine(t, g), step{1, s, api.GuardOff, a})
		g.Debounce[a-1] = 2
		follow(t, newMachine(t, g), step{3, s, api.GuardOff, api.CauseCrash})
		s.Crash = [3]bool{}
		follow(t, newMachine(t, g), step{3, s, api.GuardOff, api.CauseWater})
	}
	m := newMachine(t, guard(debounced(1)))
	follow(t, m, step{1, signals(beyond(api.CauseSensor), crash(0, 1)), api.GuardOff, api.CauseSensor}, step{1, signals(crash(0, 1), beyond(api.CauseOver)), api.GuardOff, api.CauseSensor})
}

// P5.6: a channel is marked when it has been apart for as many ticks as the debounce of CauseSensor, and stays so.
func TestMarks(t *testing.T) {
	for _, ticks := range []int{1, 2, 5, 100} {
		g := guard(debounced(3, 3, 3, 3, 3, 3, ticks))
		for i := range 3 {
			far := signals(idle)
			far.Channels[i].Value[api.VoteIso] = 0
			for _, s := range []api.Signals{signals(idle, mute(i)), far} {
				m := newMachine(t, g)
				for range 3 {
					follow(t, m, step{ticks - 1, s, api.GuardOpen, api.CauseNone})
					checkBad(t, m)
					if ticks > 1 {
						follow(t, m, step{1, signals(idle), api.GuardOpen, api.CauseNone}) // a break
					}
				}
				follow(t, m, step{ticks - 1, s, api.GuardOpen, api.CauseNone})
				checkBad(t, m)
				follow(t, m, step{1, s, api.GuardOpen, api.CauseNone})
				checkBad(t, m, i)
				follow(t, m, step{5, signals(idle), api.GuardOpen, api.CauseNone})
				checkBad(t, m, i)
				follow(t, m, step{1, signals(crash(0, 1)), api.GuardOff, api.CauseCrash}, step{1, signals(reset), api.GuardOpen, api.CauseNone})
				checkBad(t, m, i)
			}
		}
	}
}

// P5.6: what is shown by a channel that is marked does not count any more.
func TestMarkedChannelsDoNotCount(t *testing.T) {
	g := guard(debounced(1, 1, 1, 1, 1, 1, 3))
	m := newMachine(t, g)
	follow(t, m, step{3, signals(mute(0), idle), api.GuardOpen, api.CauseNone})
	checkBad(t, m, 0)
	hot := show(api.VoteTemp, 0, 329000, 330001)
	n := m.Copy()
	follow(t, n, step{1, signals(hot, idle), api.GuardOff, api.CauseHot}) // the upper one of two, not the middle one of three
	follow(t, newMachine(t, g), step{1, signals(hot, idle), api.GuardOpen, api.CauseNone})
	follow(t, m.Copy(), step{9, signals(show(api.VoteTemp, 0, 300000, 302000), idle), api.GuardOpen, api.CauseNone})
	disagree := signals(show(api.VoteTemp, 300000, 300000, 302001), idle)
	follow(t, m, step{2, disagree, api.GuardOpen, api.CauseNone}, step{1, disagree, api.GuardOff, api.CauseSensor}, step{9, disagree, api.GuardOff, api.CauseSensor})
	checkBad(t, m, 0)
	follow(t, m, step{1, signals(reset), api.GuardOpen, api.CauseNone}, step{2, signals(mute(1), idle), api.GuardOpen, api.CauseNone}, step{1, signals(mute(1), idle), api.GuardOff, api.CauseSensor})
}

// P5.6: when a channel is marked, the conditions, and whether there is current, are still those with the marks of before.
func TestMarksCountFromTheNextStepOn(t *testing.T) {
	g := guard(debounced(100, 100, 100, 100, 100, 100, 3))
	split := show(api.VoteCurrent, 0, 3000, 50000) // both others are apart from the middle one, which is a current
	m := brought(t, g, api.GuardOpening)
	follow(t, m, step{1, signals(back(0)), api.GuardOpening, api.CauseNone}, step{2, signals(back(0), split), api.GuardOpening, api.CauseNone}, step{1, signals(back(0), split), api.GuardDead, api.CauseNone})
	checkBad(t, m, 0, 2)
	n := brought(t, g, api.GuardOpening)
	follow(t, n, step{3, signals(back(0), split), api.GuardOpening, api.CauseNone}, step{1, signals(back(0), split), api.GuardOff, api.CauseWeld})
	checkBad(t, n, 0, 2)

	apart := show(api.VoteIso, 0, 500000, 9000000)
	off := brought(t, g, api.GuardOff)
	follow(t, off, step{2, signals(apart), api.GuardOff, api.CauseCrash}, step{1, signals(apart, reset), api.GuardOpen, api.CauseNone})
	checkBad(t, off, 0, 2)
	late := brought(t, g, api.GuardOff)
	follow(t, late, step{3, signals(apart), api.GuardOff, api.CauseCrash}, step{9, signals(apart, reset), api.GuardOff, api.CauseCrash})

	hot := signals(show(api.VoteTemp, 0, 331000, 350000), idle) // with one channel less they disagree
	h := newMachine(t, guard(debounced(4)))
	follow(t, h, step{3, hot, api.GuardOpen, api.CauseNone})
	follow(t, h, step{1, hot, api.GuardOff, api.CauseHot})
	checkBad(t, h, 0, 2)
	k := newMachine(t, guard(debounced(4, 4, 4, 4, 5, 4, 4)))
	follow(t, k, step{7, hot, api.GuardOpen, api.CauseNone}, step{1, hot, api.GuardOff, api.CauseSensor})
}

// P5.6: each channel has a counter of its own.
func TestCountersOfChannels(t *testing.T) {
	m := newMachine(t, guard())
	rest := func(l ...int) step { return step{1, signals(mute(l...), idle), api.GuardOpen, api.CauseNone} }
	follow(t, m, rest(0), rest(0, 1), rest(1))
	checkBad(t, m)
	follow(t, m, rest(1))
	checkBad(t, m, 1)
	follow(t, m, rest(0), rest(2), rest(), rest(0), rest(0), rest(), rest(2), rest(2), rest())
	checkBad(t, m, 1)
	follow(t, m, step{2, signals(mute(0), idle), api.GuardOpen, api.CauseNone}, step{1, signals(mute(0), idle), api.GuardOff, api.CauseSensor})
	checkBad(t, m, 0, 1)
	follow(t, m, step{3, signals(mute(2), reset), api.GuardOff, api.CauseSensor}, step{9, signals(reset), api.GuardOff, api.CauseSensor})
	checkBad(t, m, 0, 1, 2)
}
