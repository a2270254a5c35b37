package charge

import (
	"slices"

	"coulomb/api"
)

// The lines, by who tells whom over them. Those of a pair differ only in their last bit.
const (
	vehicleToStation = iota
	stationToVehicle
	stationToOperator
	operatorToStation
	operatorToPayer
	payerToOperator
	allLines
)

// mostRounds is how many ticks Settle does at most.
const mostRounds = 2000

// Net is a vehicle, a station, an operator and a payer, and what is under way between them.
type Net struct {
	self     *Net // one that was not made here does not point to itself, and is not valid
	deal     api.Deal
	time     int64
	plugged  bool
	flowing  int64
	vehicle  vehicle
	station  station
	operator operator
	payer    payer
	lines    [allLines]*Line
	flying   []api.Sent
}

// NewNet returns a net. (P9.6)
func NewNet(d api.Deal) (*Net, api.Errno) {
	if e := CheckDeal(d); e != api.OK {
		return nil, e
	}
	site, e := NewSite(1, d.Draw, d.Back)
	if e != api.OK {
		return nil, e
	}
	contracts := len(d.Contracts)
	n := &Net{deal: cloneDeal(d), vehicle: newVehicle(contracts), station: newStation(), operator: newOperator(site), payer: newPayer(contracts)}
	for i := range n.lines {
		n.lines[i] = NewLine()
	}
	n.self = n
	return n, api.OK
}

// Do lets something happen. (P9.7)
func (n *Net) Do(a api.Action) api.Errno {
	if !n.valid() {
		return api.ErrNil
	}
	switch a.Kind {
	case api.DoPlug:
		return n.plugIn(a.A, a.B)
	case api.DoUnplug:
		return n.plugOut()
	case api.DoTick:
		return n.pass(a.A)
	case api.DoDeliver, api.DoDrop, api.DoDouble:
		return n.handle(a.Kind, a.A)
	case api.DoHalt:
		return n.halt()
	case api.DoLease:
		return n.lease(a.A, a.B, a.C)
	case api.DoPay:
		return n.pay(a.A)
	}
	return api.ErrArg
}

// Time returns the time. (P9.8)
func (n *Net) Time() int64 {
	if !n.valid() {
		return 0
	}
	return n.time
}

// Phase returns the phase of a vehicle, and of a station. (P9.8)
func (n *Net) Phase(party int) int {
	if !n.valid() {
		return 0
	}
	switch party {
	case api.PartyVehicle:
		return n.vehicle.phase
	case api.PartyStation:
		return n.station.phase
	}
	return 0
}

// Session returns the number of the last session. (P9.8)
func (n *Net) Session() int {
	if !n.valid() {
		return 0
	}
	return n.station.session
}

// Plugged reports whether the plug is in. (P9.8)
func (n *Net) Plugged() bool { return n.valid() && n.plugged }

// Flowing returns the power of the last tick. (P9.8)
func (n *Net) Flowing() int64 {
	if !n.valid() {
		return 0
	}
	return n.flowing
}

// Count returns what the vehicle has counted for a session. (P9.8)
func (n *Net) Count(session int) (int64, int64) {
	if !n.valid() {
		return 0, 0
	}
	e := n.vehicle.counts[session]
	return e.in, e.back
}

// Bill returns the bill that a party has of a session. (P9.9)
func (n *Net) Bill(party, session int) (api.Bill, api.Errno) {
	if !n.valid() {
		return api.Bill{}, api.ErrNil
	}
	all := n.parties()
	if !isIndex(int64(party), len(all)) {
		return api.Bill{}, api.ErrRange
	}
	b, has := all[party].bill(session)
	if !has {
		return api.Bill{}, api.ErrNone
	}
	return b, api.OK
}

// Owed returns what is not paid of a contract. (P9.9)
func (n *Net) Owed(contract int) (int64, api.Errno) {
	if !n.valid() {
		return 0, api.ErrNil
	}
	if !n.hasContract(int64(contract)) {
		return 0, api.ErrRange
	}
	return n.payer.owed[contract], api.OK
}

// Flying returns the packets under way. (P9.10)
func (n *Net) Flying() []api.Sent {
	if !n.valid() {
		return nil
	}
	return slices.Clone(n.flying)
}

// Settle lets all packets arrive. (P9.10)
func (n *Net) Settle(most int) (int, api.Errno) {
	if !n.valid() {
		return 0, api.ErrNil
	}
	if most < 0 || most > mostRounds {
		return 0, api.ErrRange
	}
	for done := range most {
		if n.time >= api.MaxTime {
			return done, api.OK
		}
		n.tick(0)
		for len(n.flying) > 0 {
			n.deliver(0)
		}
		if n.isQuiet() {
			return done + 1, api.OK
		}
	}
	return most, api.OK
}

// Copy returns an independent copy. (P9.6)
func (n *Net) Copy() *Net {
	if !n.valid() {
		return nil
	}
	c := *n
	c.self = &c
	c.deal, c.flying = cloneDeal(n.deal), slices.Clone(n.flying)
	c.vehicle, c.station, c.operator, c.payer = n.vehicle.clone(), n.station.clone(), n.operator.clone(), n.payer.clone()
	for i, l := range n.lines {
		c.lines[i] = l.Copy()
	}
	return &c
}

// valid reports whether a net was made by a function of this package.
func (n *Net) valid() bool { return n != nil && n.self == n }

// parties returns all parties, by their numbers.
func (n *Net) parties() [4]party {
	return [4]party{api.PartyVehicle: n.vehicle, api.PartyStation: n.station, api.PartyOperator: n.operator, api.PartyPayer: n.payer}
}

// hasContract reports whether a number is the index of a contract.
func (n *Net) hasContract(a int64) bool { return isIndex(a, len(n.deal.Contracts)) }

// tell lets a note wait in a line. The line has always room for it, because no party tells much that nobody has asked for. (P9.17)
func (n *Net) tell(line int, note api.Note) { n.lines[line].Send(note) }

// isQuiet reports whether nothing waits in any line.
func (n *Net) isQuiet() bool {
	for _, l := range n.lines {
		if l.Waiting() > 0 {
			return false
		}
	}
	return true
}
