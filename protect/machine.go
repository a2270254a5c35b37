package protect

import "coulomb/api"

// Machine opens the contactors of a pack before something bad lasts too long.
type Machine struct {
	self  *Machine // one that was not made here does not point to itself, and is not valid
	guard api.Guard
	state
}

// state is what a machine keeps from step to step, whatever its guard is.
type state struct {
	phase, cause int
	bad          [3]bool
	held         [7]int // for how many ticks each condition has held
	apart        [3]int // for how many each channel has been apart
	missing      int    // for how many the report of a contactor was missing
	timer        int
}

// tick is what a machine gets in a tick, and what it finds then, with the marks of before.
type tick struct {
	api.Signals
	holds   [7]bool
	apart   [3]bool
	current bool
}

// NewMachine returns a machine. (P5.5)
func NewMachine(g api.Guard) (*Machine, api.Errno) {
	if e := Check(g); e != api.OK {
		return nil, e
	}
	return newMachine(g, state{phase: api.GuardOpen, cause: api.CauseNone}), api.OK
}

// Step does a step. (P5.6)
func (m *Machine) Step(s api.Signals) (api.Act, api.Errno) {
	if !m.valid() {
		return api.Act{}, api.ErrNil
	}
	if !areQuantities(s.Link, s.Pack) {
		return api.Act{}, api.ErrArg
	}
	t := m.find(s)
	m.count(t)
	m.mark()
	m.judge(t)
	behave := phases()[m.phase]
	behave(m, t)
	return m.Act(), api.OK
}

// Phase returns the phase. (P5.7)
func (m *Machine) Phase() int {
	if !m.valid() {
		return 0
	}
	return m.phase
}

// Cause returns why the machine has tripped. (P5.7)
func (m *Machine) Cause() int {
	if !m.valid() {
		return 0
	}
	return m.cause
}

// Bad returns which channels are marked as bad. (P5.7)
func (m *Machine) Bad() [3]bool {
	if !m.valid() {
		return [3]bool{}
	}
	return m.bad
}

// Act returns the act of the last step, which the phase behind it tells. (P5.7)
func (m *Machine) Act() api.Act {
	var a api.Act
	if !m.valid() {
		return a
	}
	a.Drive[api.ContactPlus] = m.phase == api.GuardClosed
	a.Drive[api.ContactMinus] = m.phase == api.GuardClosed || m.phase == api.GuardPre
	a.Drive[api.ContactPre] = m.phase == api.GuardPre
	a.Fire = m.phase == api.GuardDead
	return a
}

// With returns a machine in the same state with another guard. (P5.5)
func (m *Machine) With(g api.Guard) (*Machine, api.Errno) {
	if !m.valid() {
		return nil, api.ErrNil
	}
	if e := Check(g); e != api.OK {
		return nil, e
	}
	return newMachine(g, m.state), api.OK
}

// Copy returns an independent copy. (P5.5)
func (m *Machine) Copy() *Machine {
	if !m.valid() {
		return nil
	}
	return newMachine(m.guard, m.state)
}

// newMachine returns a machine in a state.
func newMachine(g api.Guard, s state) *Machine {
	m := &Machine{guard: g, state: s}
	m.self = m
	return m
}

// valid reports whether a machine was made by a function of this package.
func (m *Machine) valid() bool { return m != nil && m.self == m }

// find returns what a machine finds in a tick.
func (m *Machine) find(signals api.Signals) tick {
	s := sight{m.guard, signals.Channels, m.bad}
	return tick{Signals: signals, holds: s.holds(), apart: s.apart(), current: s.current()}
}

// count counts for how many ticks the conditions have held, and channels have been apart.
func (m *Machine) count(t tick) {
	for i, holds := range t.holds {
		m.held[i] = counted(m.held[i], holds)
	}
	for i, apart := range t.apart {
		m.apart[i] = counted(m.apart[i], apart)
	}
}

// mark marks the channels that have been apart for too long.
func (m *Machine) mark() {
	for i := range len(m.bad) {
		m.bad[i] = m.bad[i] || m.apart[i] >= m.guard.Debounce[api.CauseSensor-1]
	}
}

// judge trips with the first cause that there is.
func (m *Machine) judge(t tick) {
	for i, held := range m.held {
		if held >= m.guard.Debounce[i] {
			m.trip(i + 1)
		}
	}
	if most(t.Crash) {
		m.trip(api.CauseCrash)
	}
	if most(t.Water) {
		m.trip(api.CauseWater)
	}
}

// trip trips with a cause, but for a machine that has tripped already.
func (m *Machine) trip(cause int) {
	if !m.tripped() {
		m.cause = cause
	}
}

// tripped reports whether the machine has tripped.
func (m *Machine) tripped() bool { return m.cause != api.CauseNone }

// counted returns for how many ticks something has been so without a break, by the number of before.
func counted(before int, so bool) int {
	if !so {
		return 0
	}
	return before + 1
}

// most reports whether at least two of three wires show something.
func most(wires [3]bool) bool {
	shown := 0
	for _, so := range wires {
		if so {
			shown++
		}
	}
	return shown >= 2
}
