package protect

import "coulomb/api"

// maxFaults is how many faults a plant has at most.
const maxFaults = 16

// Plant is contactors and channels with faults.
type Plant struct {
	self *Plant // one that was not made here does not point to itself, and is not valid
	parts
}

// parts is all that a plant is made of.
type parts struct {
	sensors
	contactors
}

// sensors are the channels, and the wires of crash and water, with their faults.
type sensors struct {
	lies, mute [3]bool
	wires      fixed
}

// contactors are the contactors with their faults, the pyro fuse, and what contactors were driven.
type contactors struct {
	ring
	lag           int
	welded, stuck [3]bool
	reports       fixed
	closed        [3]bool
	fired         bool
}

// fixed are wires or reports, some of which always show a value.
type fixed struct{ is, at [3]bool }

// ring is what contactors were driven in the last ticks.
type ring struct {
	driven [api.MaxLag + 1][3]bool
	next   int // where those of the next tick are kept
}

// NewPlant returns a plant. (P5.8)
func NewPlant(lag int, l []api.Break) (*Plant, api.Errno) {
	if !isLag(lag) {
		return nil, api.ErrRange
	}
	if len(l) > maxFaults {
		return nil, api.ErrMany
	}
	p := parts{contactors: contactors{lag: lag}}
	for _, b := range l {
		if !isFault(b) {
			return nil, api.ErrArg
		}
		p.suffer(b)
	}
	return newPlant(p), api.OK
}

// Show returns the signals of a truth. (P5.9)
func (p *Plant) Show(t api.Truth) (api.Signals, api.Errno) {
	if !p.valid() {
		return api.Signals{}, api.ErrNil
	}
	if !isPossible(t) {
		return api.Signals{}, api.ErrArg
	}
	s := api.Signals{Link: t.Link, Pack: t.Pack, Want: t.Want, Reset: t.Reset}
	for i := range len(s.Channels) {
		s.Channels[i] = p.shown(i, t)
		s.Crash[i], s.Water[i] = p.wires.shown(i, t.Crash), p.wires.shown(i, t.Water)
		s.Back[i] = p.reports.shown(i, p.closed[i])
	}
	return s, api.OK
}

// Move moves the contactors. (P5.9)
func (p *Plant) Move(a api.Act) api.Errno {
	if !p.valid() {
		return api.ErrNil
	}
	p.move(p.turn(a.Drive, p.lag))
	p.fired = p.fired || a.Fire
	return api.OK
}

// Closed returns which contactors are closed. (P5.9)
func (p *Plant) Closed() [3]bool {
	if !p.valid() {
		return [3]bool{}
	}
	return p.closed
}

// Path reports whether current can flow. (P5.9)
func (p *Plant) Path() bool {
	if !p.valid() || p.fired {
		return false
	}
	return p.closed[api.ContactMinus] && (p.closed[api.ContactPlus] || p.closed[api.ContactPre])
}

// Copy returns an independent copy. (P5.8)
func (p *Plant) Copy() *Plant {
	if !p.valid() {
		return nil
	}
	return newPlant(p.parts)
}

// newPlant returns a plant of some parts.
func newPlant(made parts) *Plant {
	p := &Plant{parts: made}
	p.self = p
	return p
}

// valid reports whether a plant was made by a function of this package.
func (p *Plant) valid() bool { return p != nil && p.self == p }

// isLag reports whether a number is a lag.
func isLag(lag int) bool { return allFrom(0, api.MaxLag, lag) }

// isFault reports whether a fault is valid.
func isFault(b api.Break) bool {
	switch b.Kind {
	case api.BreakNone:
		return b == api.Break{}
	case api.BreakLie, api.BreakMute, api.BreakWeld, api.BreakStuck:
		return allFrom(0, 2, b.A) && !b.B
	case api.BreakWire, api.BreakBack:
		return allFrom(0, 2, b.A)
	}
	return false
}

// isPossible reports whether a truth is possible.
func isPossible(t api.Truth) bool {
	for i := range len(t.Error) {
		if !allFrom(-api.MaxQuantity/2, api.MaxQuantity/2, t.Error[i][:]...) {
			return false
		}
	}
	return areQuantities(t.Value[:]...) && areQuantities(t.Lie[:]...) && areQuantities(t.Link, t.Pack)
}

// suffer adds a fault to the parts.
func (p *parts) suffer(b api.Break) {
	switch b.Kind {
	case api.BreakLie:
		p.lies[b.A] = true
	case api.BreakMute:
		p.mute[b.A] = true
	case api.BreakWeld:
		p.welded[b.A] = true
	case api.BreakStuck:
		p.stuck[b.A] = true
	case api.BreakWire:
		p.wires.fix(b.A, b.B)
	case api.BreakBack:
		p.reports.fix(b.A, b.B)
	}
}

// shown returns what a channel shows of a truth.
func (s *sensors) shown(i int, t api.Truth) api.Channel {
	if s.mute[i] {
		return api.Channel{}
	}
	if s.lies[i] {
		return api.Channel{Has: true, Value: t.Lie}
	}
	c := api.Channel{Has: true, Value: t.Value}
	for quantity, x := range t.Error[i] {
		c.Value[quantity] += x
	}
	return c
}

// move closes and opens the contactors, by those that were driven lag ticks ago.
func (c *contactors) move(driven [3]bool) {
	for i := range len(c.closed) {
		kept := c.welded[i] && c.closed[i]
		c.closed[i] = !c.stuck[i] && (driven[i] || kept)
	}
}

// fix makes one of them always show a value.
func (f *fixed) fix(i int, value bool) { f.is[i], f.at[i] = true, value }

// shown returns what one of them shows for what is true.
func (f *fixed) shown(i int, truth bool) bool {
	if f.is[i] {
		return f.at[i]
	}
	return truth
}

// turn keeps what contactors are driven in a tick, and returns those that were driven lag ticks ago.
func (r *ring) turn(driven [3]bool, lag int) [3]bool {
	size := len(r.driven)
	r.driven[r.next] = driven
	before := r.driven[(r.next+size-lag)%size]
	r.next = (r.next + 1) % size
	return before
}
