package protect

import "coulomb/api"

// phases returns what happens in a step, by the phase before it.
func phases() [6]func(m *Machine, t tick) {
	return [6]func(m *Machine, t tick){
		api.GuardOpen:    (*Machine).stayOpen,
		api.GuardPre:     (*Machine).precharge,
		api.GuardClosed:  (*Machine).stayClosed,
		api.GuardOpening: (*Machine).open,
		api.GuardOff:     (*Machine).stayOff,
		api.GuardDead:    (*Machine).stayDead,
	}
}

// enter changes the phase. The timer begins again: where a phase uses it, it is 0 at first.
func (m *Machine) enter(phase int) { m.phase, m.timer = phase, 0 }

// stayOpen waits until the contactors are to be closed.
func (m *Machine) stayOpen(t tick) {
	if t.Want && someClosed(t) {
		m.trip(api.CauseWeld)
	}
	switch {
	case m.tripped():
		m.enter(api.GuardOff)
	case t.Want:
		m.enter(api.GuardPre)
	}
}

// precharge waits until the link is charged.
func (m *Machine) precharge(t tick) {
	if m.tripped() || !t.Want {
		m.enter(api.GuardOpening)
		return
	}
	if t.Link*api.Whole >= t.Pack*m.guard.PrePart {
		m.enter(api.GuardClosed)
		m.missing = 0
		return
	}
	m.timer++
	if m.timer >= m.guard.PreTicks {
		m.trip(api.CausePre)
		m.enter(api.GuardOpening)
	}
}

// stayClosed waits until the contactors are to be opened.
func (m *Machine) stayClosed(t tick) {
	m.missing = counted(m.missing, !t.Back[api.ContactPlus] || !t.Back[api.ContactMinus])
	if m.missing > m.guard.OpenTicks {
		m.trip(api.CauseBack)
	}
	if m.tripped() || !t.Want {
		m.enter(api.GuardOpening)
	}
}

// open waits until the contactors have had the time to open, and looks whether they have.
func (m *Machine) open(t tick) {
	m.timer++
	if m.timer < m.guard.OpenTicks {
		return
	}
	switch {
	case someClosed(t) && t.current:
		m.enter(api.GuardDead)
		return
	case someClosed(t):
		m.trip(api.CauseWeld)
	}
	if m.tripped() {
		m.enter(api.GuardOff)
		return
	}
	m.enter(api.GuardOpen)
}

// stayOff looks whether there is still current, and waits for a reset.
func (m *Machine) stayOff(t tick) {
	m.timer = counted(m.timer, t.current)
	if m.timer >= m.guard.OpenTicks {
		m.enter(api.GuardDead)
		return
	}
	if t.Reset && isCalm(t) && m.cause != api.CauseWeld {
		m.enter(api.GuardOpen)
		m.cause, m.held = api.CauseNone, [7]int{}
	}
}

// stayDead does nothing: what has been fired is open for ever.
func (m *Machine) stayDead(tick) {}

// isCalm reports whether nothing is there now that trips a machine when it lasts.
func isCalm(t tick) bool { return t.holds == [7]bool{} && !most(t.Crash) && !most(t.Water) }

// someClosed reports whether a contactor is reported to be closed.
func someClosed(t tick) bool { return t.Back != [3]bool{} }
