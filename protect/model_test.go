package protect_test

import (
	"math/rand"
	"testing"

	"coulomb/api"
	"coulomb/protect"
)

// machineModel is a machine, as the chapter describes it.
type machineModel struct {
	g       api.Guard
	phase   int
	cause   int
	bad     [3]bool
	held    [7]int
	apart   [3]int
	missing int
	timer   int
}

// step does a step.
func (m *machineModel) step(s api.Signals) api.Act {
	holds, apart, v := wantHolds(m.g, s.Channels, m.bad), wantApart(m.g, s.Channels, m.bad), wantVote(m.g, s.Channels, m.bad, api.VoteCurrent)
	flows := v.some && (v.upper > m.g.Leak || v.lower < -m.g.Leak)
	for i := range holds {
		m.held[i]++
		if !holds[i] {
			m.held[i] = 0
		}
	}
	for i := range apart {
		m.apart[i]++
		if !apart[i] {
			m.apart[i] = 0
		}
		if m.apart[i] >= m.g.Debounce[6] {
			m.bad[i] = true
		}
	}
	m.judge(s)
	m.behave(s, flows, holds == [7]bool{} && count(s.Crash) < 2 && count(s.Water) < 2)
	return actOf(m.phase)
}

// judge trips with the first cause that there is, if it has not tripped.
func (m *machineModel) judge(s api.Signals) {
	var causes []int
	for i := range m.held {
		if m.held[i] >= m.g.Debounce[i] {
			causes = append(causes, i+1)
		}
	}
	if count(s.Crash) >= 2 {
		causes = append(causes, api.CauseCrash)
	}
	if count(s.Water) >= 2 {
		causes = append(causes, api.CauseWater)
	}
	if m.cause == api.CauseNone && len(causes) > 0 {
		m.cause = causes[0]
	}
}

// behave does what happens in the phase.
func (m *machineModel) behave(s api.Signals, flows, calm bool) {
	tripped, reported := m.cause != api.CauseNone, count(s.Back) > 0
	switch m.phase {
	case api.GuardOpen:
		if tripped {
			m.phase = api.GuardOff
		} else if s.Want && reported {
			m.phase, m.cause = api.GuardOff, api.CauseWeld
		} else if s.Want {
			m.phase, m.timer = api.GuardPre, 0
		}
	case api.GuardPre:
		if tripped || !s.Want {
			m.phase, m.timer = api.GuardOpening, 0
		} else if s.Link*65536 >= s.Pack*m.g.PrePart {
			m.phase, m.missing = api.GuardClosed, 0
		} else if m.timer++; m.timer >= m.g.PreTicks {
			m.phase, m.cause, m.timer = api.GuardOpening, api.CausePre, 0
		}
	case api.GuardClosed:
		if s.Back[0] && s.Back[1] {
			m.missing = 0
		} else if m.missing++; m.missing > m.g.OpenTicks && !tripped {
			m.cause = api.CauseBack
		}
		if m.cause != api.CauseNone || !s.Want {
			m.phase, m.timer = api.GuardOpening, 0
		}
	case api.GuardOpening:
		m.opening(flows, reported)
	case api.GuardOff:
		m.off(s, flows, calm)
	}
}

// opening does what happens in GuardOpening.
func (m *machineModel) opening(flows, reported bool) {
	m.timer++
	if m.timer < m.g.OpenTicks {
		return
	}
	if reported && flows {
		m.phase = api.GuardDead
		return
	}
	if reported && m.cause == api.CauseNone {
		m.cause = api.CauseWeld
	}
	m.phase, m.timer = api.GuardOff, 0
	if m.cause == api.CauseNone {
		m.phase = api.GuardOpen
	}
}

// off does what happens in GuardOff.
func (m *machineModel) off(s api.Signals, flows, calm bool) {
	m.timer++
	if !flows {
		m.timer = 0
	}
	if m.timer >= m.g.OpenTicks {
		m.phase = api.GuardDead
	} else if s.Reset && calm && m.cause != api.CauseWeld {
		m.phase, m.cause, m.held, m.timer = api.GuardOpen, api.CauseNone, [7]int{}, 0
	}
}

// plantModel is a plant, as the chapter describes it.
type plantModel struct {
	lag    int
	faults []api.Break
	acts   []api.Act
	closed [3]bool
	fired  bool
}

// has returns the last fault of a kind of one of three, and whether there is one.
func (p *plantModel) has(kind, a int) (api.Break, bool) {
	for i := len(p.faults) - 1; i >= 0; i-- {
		if p.faults[i].Kind == kind && p.faults[i].A == a {
			return p.faults[i], true
		}
	}
	return api.Break{}, false
}

// move moves the contactors.
func (p *plantModel) move(a api.Act) {
	p.acts = append(p.acts, a)
	for i := range 3 {
		before := p.closed[i]
		p.closed[i] = len(p.acts) > p.lag && p.acts[len(p.acts)-1-p.lag].Drive[i]
		if _, welded := p.has(api.BreakWeld, i); welded && before {
			p.closed[i] = true
		}
		if _, stuck := p.has(api.BreakStuck, i); stuck {
			p.closed[i] = false
		}
	}
	p.fired = p.fired || a.Fire
}

// path reports whether the path is closed.
func (p *plantModel) path() bool {
	plus, minus, pre := p.closed[api.ContactPlus], p.closed[api.ContactMinus], p.closed[api.ContactPre]
	return (plus && minus || pre && minus) && !p.fired
}

// wantSignals are those of a truth.
func wantSignals(p *plantModel, x api.Truth) api.Signals {
	s := api.Signals{Back: p.closed, Link: x.Link, Pack: x.Pack, Want: x.Want, Reset: x.Reset}
	for i := range 3 {
		s.Channels[i].Has = true
		_, lies := p.has(api.BreakLie, i)
		for q := range 5 {
			s.Channels[i].Value[q] = x.Value[q] + x.Error[i][q]
			if lies {
				s.Channels[i].Value[q] = x.Lie[q]
			}
		}
		if _, silent := p.has(api.BreakMute, i); silent {
			s.Channels[i] = api.Channel{}
		}
		s.Crash[i], s.Water[i] = x.Crash, x.Water
		if b, ok := p.has(api.BreakWire, i); ok {
			s.Crash[i], s.Water[i] = b.B, b.B
		}
		if b, ok := p.has(api.BreakBack, i); ok {
			s.Back[i] = b.B
		}
	}
	return s
}

// mood is how likely what is that happens to a machine, in parts of 100, for some ticks.
type mood struct {
	quantity       int // which one is not as usual
	by             int64
	far, silent    int // of a channel
	crash, water   int
	idle, low      int
	reset, strange int
	current        int64
}

// drawMood draws a mood. Most of them are good, so that contactors are closed.
func drawMood(r *rand.Rand) mood {
	m := mood{reset: pick(r, 0, 50), current: pick[int64](r, 0, 0, 0, 1, 3)}
	switch r.Intn(12) {
	case 0, 1, 2:
		m.by, m.quantity = pick[int64](r, -8, -4, 4, 8), r.Intn(5)
	case 3:
		m.far = pick(r, 20, 90)
	case 4:
		m.silent = pick(r, 20, 90)
	case 5:
		m.crash, m.water = pick(r, 0, 40), pick(r, 0, 40)
	case 6, 7:
		m.idle = pick(r, 30, 100)
	case 8:
		m.low = pick(r, 50, 100)
	case 9, 10:
		m.strange = pick(r, 10, 50, 100)
	}
	return m
}

// likely draws whether something happens.
func likely(r *rand.Rand, part int) bool { return r.Intn(100) < part }

// drawSignals draws signals in a mood, to a machine that drove some contactors.
func drawSignals(r *rand.Rand, m mood, driven [3]bool) api.Signals {
	s := api.Signals{Link: volt, Pack: volt, Back: driven, Want: !likely(r, m.idle), Reset: likely(r, m.reset)}
	usual := [5]int64{98, 102, m.current, 98, 102}
	usual[m.quantity] += m.by
	single := r.Intn(3)
	for i := range s.Channels {
		c := api.Channel{Has: !likely(r, m.silent) || i != single}
		for q, x := range usual {
			c.Value[q] = x + drawInt(r, -1, 1)*drawInt(r, 0, 1)
		}
		if likely(r, m.far) && i == single {
			c.Value[r.Intn(5)] += pick(r, -9, 9, drawNumber(r))
		}
		s.Channels[i] = c
		s.Crash[i], s.Water[i] = likely(r, m.crash), likely(r, m.water)
		if likely(r, m.strange) {
			s.Back[i] = likely(r, 60)
		}
	}
	if likely(r, m.low) {
		s.Link = drawInt(r, 0, volt)
	}
	return s
}

// moves counts from which phase, and with which cause, a machine has got to which.
type moves map[[4]int]int

// check checks that all changes have been seen that there are.
func (m moves) check(t *testing.T) {
	t.Helper()
	need := [][4]int{
		{api.GuardOpen, 0, api.GuardPre, 0}, {api.GuardOpen, 0, api.GuardOff, api.CauseWeld}, {api.GuardPre, 0, api.GuardClosed, 0}, {api.GuardPre, 0, api.GuardOpening, 0}, {api.GuardPre, 0, api.GuardOpening, api.CausePre},
		{api.GuardClosed, 0, api.GuardOpening, 0}, {api.GuardClosed, 0, api.GuardOpening, api.CauseBack}, {api.GuardOpening, 0, api.GuardOpen, 0}, {api.GuardOpening, 0, api.GuardOff, api.CauseWeld}, {api.GuardOpening, 0, api.GuardDead, 0},
		{api.GuardOff, api.CausePre, api.GuardOpen, 0}, {api.GuardOff, api.CauseBack, api.GuardOpen, 0}, {api.GuardOff, api.CauseWeld, api.GuardDead, api.CauseWeld},
	}
	for c := api.CauseOver; c <= api.CauseWater; c++ {
		need = append(need, [4]int{api.GuardOpen, 0, api.GuardOff, c}, [4]int{api.GuardPre, 0, api.GuardOpening, c}, [4]int{api.GuardClosed, 0, api.GuardOpening, c},
			[4]int{api.GuardOpening, c, api.GuardOff, c}, [4]int{api.GuardOff, c, api.GuardDead, c}, [4]int{api.GuardOff, c, api.GuardOpen, 0})
	}
	for _, x := range need {
		if m[x] == 0 {
			t.Errorf("never seen: from the phase %d and the cause %d to %d and %d", x[0], x[1], x[2], x[3])
		}
	}
}

// P5.5 to P5.7: drawn steps, by the chapter's description; now and then the guard is another one, or the machine a copy.
func TestDrawnSteps(t *testing.T) {
	r := chance(56)
	seen := moves{}
	for range 1500 {
		g := drawGuard(r)
		m, want, now := newMachine(t, g), machineModel{g: g}, mood{}
		for i := range 120 {
			if r.Intn(6) == 0 {
				now = drawMood(r)
			}
			switch r.Intn(40) {
			case 0:
				want.g = drawGuard(r)
				m, _ = m.With(want.g)
			case 1:
				m = m.Copy()
			}
			s := drawSignals(r, now, m.Act().Drive)
			phase, cause := want.phase, want.cause
			act, e := m.Step(s)
			if wantAct := want.step(s); e != api.OK || act != wantAct || m.Act() != wantAct || m.Phase() != want.phase || m.Cause() != want.cause || m.Bad() != want.bad {
				t.Fatalf("step %d from the phase %d, cause %d with %v, %v: %v, %d, phase %d, cause %d, %v, not %v", i, phase, cause, want.g, s, act, e, m.Phase(), m.Cause(), m.Bad(), want)
			}
			seen[[4]int{phase, cause, want.phase, want.cause}]++
		}
	}
	seen.check(t)
}

// P5.5: With keeps the state, and gives the guard: each counter, the timer, the marks and the act.
func TestWith(t *testing.T) {
	for _, g := range wildGuards() {
		if m, e := newMachine(t, guard()).With(g); m != nil || e != api.ErrArg {
			t.Errorf("With %v: %v, %d", g, m, e)
		}
	}
	for phase := range 6 {
		m := brought(t, guard(), phase)
		n := with(t, m, guard(opens(7)))
		if n == m || n.Phase() != m.Phase() || n.Cause() != m.Cause() || n.Bad() != m.Bad() || n.Act() != m.Act() {
			t.Errorf("With in the phase %d: %d, %d, %v, %v", phase, n.Phase(), n.Cause(), n.Bad(), n.Act())
		}
		checkSame(t, with(t, with(t, m, guard(opens(99))), guard()), m.Copy())
	}
	long := guard(debounced(100), opens(100), pres(58982, 100))
	short := guard(debounced(5), opens(5), pres(58982, 5))
	for cause := 1; cause <= 7; cause++ { // the counter of a condition is 4, or 50 already
		for _, ticks := range []int{4, 50} {
			m := newMachine(t, long)
			follow(t, m, step{ticks, signals(beyond(cause), idle), api.GuardOpen, api.CauseNone})
			n := with(t, m, short)
			checkBad(t, n)
			follow(t, n, step{1, signals(beyond(cause), idle), api.GuardOff, cause})
			follow(t, m, step{99 - ticks, signals(beyond(cause), idle), api.GuardOpen, api.CauseNone}, step{1, signals(beyond(cause), idle), api.GuardOff, cause})
		}
	}
	low := signals(linked(0, volt))
	pre := brought(t, long, api.GuardPre)
	follow(t, pre, step{10, low, api.GuardPre, api.CauseNone})
	follow(t, with(t, pre, guard(pres(58982, 12))), step{1, low, api.GuardPre, api.CauseNone}, step{1, low, api.GuardOpening, api.CausePre})
	follow(t, with(t, pre, short), step{1, low, api.GuardOpening, api.CausePre})
	follow(t, with(t, pre, guard(pres(1, 5))), step{1, signals(linked(volt/1000, volt)), api.GuardClosed, api.CauseNone})
	closed := brought(t, long, api.GuardClosed)
	follow(t, closed, step{10, signals(), api.GuardClosed, api.CauseNone})
	follow(t, with(t, closed, short), step{1, signals(), api.GuardOpening, api.CauseBack})
	follow(t, with(t, closed, guard(opens(11))), step{1, signals(), api.GuardClosed, api.CauseNone}, step{1, signals(), api.GuardOpening, api.CauseBack})
	opening := brought(t, long, api.GuardOpening)
	follow(t, opening, step{10, signals(), api.GuardOpening, api.CauseNone})
	follow(t, with(t, opening, short), step{1, signals(), api.GuardOpen, api.CauseNone})
	off := brought(t, long, api.GuardOff)
	follow(t, off, step{10, signals(current(9000)), api.GuardOff, api.CauseCrash})
	follow(t, with(t, off, short), step{1, signals(current(9000)), api.GuardDead, api.CauseCrash})
	follow(t, with(t, off, guard(opens(5), leaks(9000))), step{9, signals(current(9000)), api.GuardOff, api.CauseCrash})
	marks := newMachine(t, long)
	follow(t, marks, step{4, signals(mute(1), idle), api.GuardOpen, api.CauseNone})
	marked := with(t, marks, short)
	follow(t, marked, step{1, signals(mute(1), idle), api.GuardOpen, api.CauseNone})
	checkBad(t, marked, 1)
	checkBad(t, with(t, marked, long), 1)
	checkBad(t, marks)
}

// with returns a machine with another guard.
func with(t *testing.T, m *protect.Machine, g api.Guard) *protect.Machine {
	t.Helper()
	n, e := m.With(g)
	if n == nil || e != api.OK {
		t.Fatalf("With: %v, %d", n, e)
	}
	return n
}

// P5.5, R4: copies, and machines with the same guard, go on by themselves, as the original does.
func TestCopiesOfMachines(t *testing.T) {
	r := chance(55)
	for range 200 {
		g := drawGuard(r)
		m, now := newMachine(t, g), mood{}
		for range r.Intn(60) {
			if r.Intn(6) == 0 {
				now = drawMood(r)
			}
			m.Step(drawSignals(r, now, m.Act().Drive))
		}
		a, b, c := m.Copy(), with(t, m, g), m.Copy()
		var given []api.Signals
		var acts []api.Act
		var phases [][2]int
		for range 30 {
			s := drawSignals(r, drawMood(r), a.Act().Drive)
			act, _ := a.Step(s)
			given, acts, phases = append(given, s), append(acts, act), append(phases, [2]int{a.Phase(), a.Cause()})
		}
		for name, x := range map[string]*protect.Machine{"the original": m, "the one with the same guard": b, "the copy of a copy": c.Copy()} {
			for i, s := range given {
				if act, e := x.Step(s); act != acts[i] || e != api.OK || x.Phase() != phases[i][0] || x.Cause() != phases[i][1] {
					t.Fatalf("%s, step %d: %v, %d", name, i, act, e)
				}
			}
			if x.Bad() != a.Bad() {
				t.Errorf("%s: %v", name, x.Bad())
			}
		}
	}
}
