package charge

import (
	"slices"

	"coulomb/api"
)

// plugIn is DoPlug. (P9.7)
func (n *Net) plugIn(contract, wrong int64) api.Errno {
	if n.plugged {
		return api.ErrState
	}
	if !n.hasContract(contract) || !isFrom(wrong, 0, 1) {
		return api.ErrRange
	}
	p := plug{int(contract), n.vehicle.plugs[contract]}
	c := n.deal.Contracts[contract]
	if p.number >= len(c.Pads) {
		return api.ErrOver
	}
	if n.isCrowded(vehicleToStation, api.MaxNotes/4) || n.isCrowded(stationToVehicle, api.MaxNotes/4) {
		return api.ErrFull
	}
	proof, e := proofOf(c, p)
	if e != api.OK {
		return e
	}
	n.plugged = true
	n.vehicle.plugs[contract]++
	n.vehicle.phase, n.vehicle.last = api.ChargeAsked, p
	n.tell(vehicleToStation, api.Note{Kind: api.NotePlug, A: contract, B: (int64(proof) + wrong) % prime, C: int64(p.number)})
	return api.OK
}

// plugOut is DoUnplug. (P9.7)
func (n *Net) plugOut() api.Errno {
	if !n.plugged {
		return api.ErrState
	}
	n.plugged = false
	n.vehicle.phase = api.ChargeEnded
	switch n.station.phase {
	case api.ChargeAsked:
		n.station.gone = true
	case api.ChargeFlowing:
		n.endSession()
	}
	return api.OK
}

// pass is DoTick. (P9.7)
func (n *Net) pass(wanted int64) api.Errno {
	if !isFrom(wanted, -api.MaxPower, api.MaxPower) {
		return api.ErrRange
	}
	if n.time >= api.MaxTime {
		return api.ErrOver
	}
	n.tick(wanted)
	return api.OK
}

// handle is DoDeliver, DoDrop and DoDouble. (P9.7)
func (n *Net) handle(kind int, a int64) api.Errno {
	if !isIndex(a, len(n.flying)) {
		return api.ErrRange
	}
	i := int(a)
	switch kind {
	case api.DoDeliver:
		n.deliver(i)
	case api.DoDrop:
		n.take(i)
	case api.DoDouble:
		if len(n.flying) < api.MaxFlight {
			n.flying = append(n.flying, n.flying[i])
		}
	}
	return api.OK
}

// halt is DoHalt. (P9.7)
func (n *Net) halt() api.Errno {
	open := n.operator.open
	if len(open) == 0 {
		return api.ErrState
	}
	if n.isCrowded(operatorToStation, api.MaxNotes/2) {
		return api.ErrFull
	}
	n.tell(operatorToStation, api.Note{Kind: api.NoteHalt, Session: open[len(open)-1].session})
	return api.OK
}

// lease is DoLease. (P9.7)
func (n *Net) lease(draw, back, ticks int64) api.Errno {
	if n.isCrowded(operatorToStation, api.MaxNotes/2) {
		return api.ErrFull
	}
	if !isFrom(ticks, 1, api.MaxLease) { // with others the sum may be no number
		return api.ErrArg
	}
	l, e := n.operator.site.Grant(0, draw, back, n.time+ticks, n.time)
	if e != api.OK {
		return e
	}
	n.tell(operatorToStation, api.Note{Kind: api.NoteLease, Session: l.Number, A: l.Draw, B: l.Back, C: l.Until})
	return api.OK
}

// pay is DoPay. (P9.7)
func (n *Net) pay(contract int64) api.Errno {
	if !n.hasContract(contract) {
		return api.ErrRange
	}
	n.payer.owed[contract] = 0
	return api.OK
}

// isCrowded reports whether more than some notes wait in a line.
func (n *Net) isCrowded(line, most int) bool { return n.lines[line].Waiting() > most }

// take takes away a packet that is under way.
func (n *Net) take(i int) api.Sent {
	s := n.flying[i]
	n.flying = slices.Delete(n.flying, i, i+1)
	return s
}

// deliver lets a packet arrive.
func (n *Net) deliver(i int) {
	s := n.take(i)
	if note, arrived := n.lines[s.Line^1].Receive(s.Packet); arrived {
		n.answer(s.Line, note)
	}
}

// tick is a tick in which the vehicle wants a power.
func (n *Net) tick(wanted int64) {
	n.flow(wanted)
	n.record()
	n.time++
	n.poll()
}

// flow lets as much of a power flow as may be used.
func (n *Net) flow(wanted int64) {
	n.flowing = 0
	if !n.canFlow() {
		return
	}
	draw, back := n.station.post.Most(n.time)
	n.flowing = min(max(wanted, -back), draw)
	n.station.since = n.station.since.with(n.flowing)
	n.vehicle.count(n.flowing)
}

// canFlow reports whether energy may flow.
func (n *Net) canFlow() bool {
	return n.plugged && n.vehicle.phase == api.ChargeFlowing && n.station.isIn(api.ChargeFlowing, n.vehicle.session) && n.isTrusted()
}

// isTrusted reports whether fewer records than are allowed are without an answer.
func (n *Net) isTrusted() bool { return n.station.open < n.deal.Slack }

// record counts a tick of the station, which tells a record when it is time.
func (n *Net) record() {
	s := &n.station
	if s.phase != api.ChargeFlowing || !n.isTrusted() {
		return
	}
	s.ticks++
	if s.ticks < n.deal.Every {
		return
	}
	n.tellSince(api.NoteRecord)
	s.ticks, s.since = 0, energy{}
	s.open++
}

// tellSince tells the operator what was taken and given back since the last record.
func (n *Net) tellSince(kind int) {
	s := &n.station
	n.tell(stationToOperator, api.Note{Kind: kind, Session: s.session, A: s.since.in, B: s.since.back, C: n.time})
}

// endSession ends the session of the station.
func (n *Net) endSession() {
	n.tellSince(api.NoteFinal)
	n.station.phase = api.ChargeClosing
}

// poll polls all lines. If too many packets are under way then, the first ones are lost.
func (n *Net) poll() {
	for i, l := range n.lines {
		if p, has := l.Poll(); has {
			n.flying = append(n.flying, api.Sent{Line: i, Packet: p})
		}
	}
	n.flying = slices.Delete(n.flying, 0, max(0, len(n.flying)-api.MaxFlight))
}
