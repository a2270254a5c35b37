package charge_test

import (
	"math"
	"slices"
	"testing"

	"coulomb/api"
)

// plug puts the plug in with a contract, and unplug takes it out.
func (x twoNets) plug(contract int64) {
	x.t.Helper()
	x.do(api.Action{Kind: api.DoPlug, A: contract}, api.OK)
}
func (x twoNets) unplug() {
	x.t.Helper()
	x.do(api.Action{Kind: api.DoUnplug}, api.OK)
}

// tick lets ticks pass in which the vehicle wants powers.
func (x twoNets) tick(powers ...int64) {
	x.t.Helper()
	for _, p := range powers {
		x.do(api.Action{Kind: api.DoTick, A: p}, api.OK)
	}
}

// lease leases power, and halt ends the session by the operator.
func (x twoNets) lease(draw, back, ticks int64) {
	x.t.Helper()
	x.do(api.Action{Kind: api.DoLease, A: draw, B: back, C: ticks}, api.OK)
}
func (x twoNets) halt() {
	x.t.Helper()
	x.do(api.Action{Kind: api.DoHalt}, api.OK)
}

// deliverAll delivers all packets, and dropAll loses them.
func (x twoNets) deliverAll() {
	x.t.Helper()
	for len(x.m.flying) > 0 {
		x.do(api.Action{Kind: api.DoDeliver}, api.OK)
	}
}
func (x twoNets) dropAll() {
	x.t.Helper()
	for len(x.m.flying) > 0 {
		x.do(api.Action{Kind: api.DoDrop}, api.OK)
	}
}

// go over lets a tick pass, in which just the packets of some lines are delivered.
func (x twoNets) over(lines ...int) {
	x.t.Helper()
	x.tick(0)
	for len(x.m.flying) > 0 {
		kind := api.DoDrop
		if slices.Contains(lines, x.m.flying[0].Line) {
			kind = api.DoDeliver
		}
		x.do(api.Action{Kind: kind}, api.OK)
	}
}

// flowing is a net in which energy can flow, with a lease for many ticks.
func flowing(t *testing.T, changes ...change[api.Deal]) twoNets {
	t.Helper()
	x := newNets(t, changes...)
	x.lease(x.m.d.Draw, x.m.d.Back, longest)
	x.plug(0)
	x.settle(9)
	x.phases(api.ChargeFlowing, api.ChargeFlowing)
	return x
}

// phases checks the phases of the vehicle and the station.
func (x twoNets) phases(vehicle, station int) {
	x.t.Helper()
	same(x.t, [2]int{x.n.Phase(api.PartyVehicle), x.n.Phase(api.PartyStation)}, [2]int{vehicle, station}, "the phases")
}

// flies checks which packets are under way.
func (x twoNets) flies(want ...api.Sent) {
	x.t.Helper()
	sameList(x.t, x.n.Flying(), want, "Flying")
}

// sent is a packet with a note, and back is one without.
func sent(line, number, ack int, n api.Note) api.Sent {
	return api.Sent{Line: line, Packet: api.Packet{Has: true, Number: number, Note: n, Ack: ack}}
}
func back(line, ack int) api.Sent { return api.Sent{Line: line, Packet: api.Packet{Ack: ack}} }

// billed checks that all parties have a bill of a session.
func (x twoNets) billed(session int, in, back, amount int64) {
	x.t.Helper()
	for party := range 4 {
		same(x.t, answerOf(x.n.Bill(party, session)), good(api.Bill{Session: session, In: in, Back: back, Amount: amount}), "Bill", party, session)
	}
	a, b := x.n.Count(session)
	same(x.t, pair{a, b}, pair{in, back}, "Count", session)
}

// notBilled checks that no party has a bill of a session, and that nothing has flowed.
func (x twoNets) notBilled(session int) {
	x.t.Helper()
	for party := range 4 {
		same(x.t, answerOf(x.n.Bill(party, session)), bad[api.Bill](api.ErrNone), "Bill", party, session)
	}
	a, b := x.n.Count(session)
	same(x.t, pair{a, b}, pair{}, "Count", session)
}

// P9.6 to P9.10: the chapter's example.
func TestExampleOfNets(t *testing.T) {
	x := newNets(t)
	x.lease(50, 50, 100)
	x.plug(0)
	x.settle(50)
	x.phases(api.ChargeFlowing, api.ChargeFlowing)
	for i := range 4 {
		x.tick(100)
		same(t, x.n.Flowing(), 50, "Flowing in the tick", i)
	}
	a, b := x.n.Count(1)
	same(t, pair{a, b}, pair{200, 0}, "Count")
	x.unplug()
	x.settle(50)
	x.billed(1, 200, 0, 10)
	x.phases(api.ChargeEnded, api.ChargeIdle)
}

// P9.6: what a new net is.
func TestNewNet(t *testing.T) {
	for _, d := range validDeals() {
		x := twoNets{t, newNet(t, d), newNetModel(d)}
		x.check()
		x.phases(api.ChargeIdle, api.ChargeIdle)
		same(t, x.n.Time(), 0, "Time")
		x.flies()
		x.tick(mostPower)
		x.flies()
		x.lease(d.Draw, d.Back, 5)
		c := newNets(t, func(y *api.Deal) { *y = d })
		c.do(api.Action{Kind: api.DoLease, A: d.Draw + 1, C: 5}, errorOf(d.Draw+1))
		c.do(api.Action{Kind: api.DoLease, B: d.Back + 1, C: 5}, errorOf(d.Back+1))
	}
}

// errorOf is the error of a lease of a power that is too much for a site.
func errorOf(power int64) api.Errno {
	if power > mostPower {
		return api.ErrArg
	}
	return api.ErrLimit
}

// P9.6: a copy, and the original, go on independently of each other.
func TestCopiesOfNets(t *testing.T) {
	x := flowing(t, contracts(4, 4), slack(20))
	x.tick(70, -30, 20)
	c := x.clone()
	c.check()
	x.unplug()
	x.settle(50)
	c.check()
	c.tick(50, 60)
	c.halt()
	c.lease(10, 10, 50)
	c.settle(50)
	x.check()
	x.billed(1, 90, 30, 10)
	c.billed(1, 200, 30, 10)
	x.plug(1)
	x.settle(9)
	c.check()
	c.unplug()
	c.do(api.Action{Kind: api.DoPay}, api.OK)
	c.plug(0)
	c.settle(9)
	x.check()
	same(t, answerOf(x.n.Owed(0)), good[int64](10), "Owed")
	same(t, answerOf(c.n.Owed(0)), good[int64](0), "Owed, of the copy")
}

// P9.7: a session from its beginning to its end, packet by packet.
func TestSessionStepByStep(t *testing.T) {
	x := newNets(t, every(2))
	proof := int64(proofOf(x.m.d.Contracts[0], 0, 0))
	x.lease(60, 0, 100)
	x.plug(0)
	x.flies()
	x.phases(api.ChargeAsked, api.ChargeIdle)
	note := func(kind, session int, numbers ...int64) api.Note {
		numbers = append(numbers, 0, 0, 0)
		return api.Note{Kind: kind, Session: session, A: numbers[0], B: numbers[1], C: numbers[2]}
	}
	step := func(vehicle, station int, want ...api.Sent) {
		t.Helper()
		x.tick(70)
		x.flies(want...)
		x.deliverAll()
		x.phases(vehicle, station)
	}
	step(api.ChargeAsked, api.ChargeAsked, sent(toStation, 1, 0, note(api.NotePlug, 0, 0, proof, 0)), sent(backStation, 1, 0, note(api.NoteLease, 1, 60, 0, 100)))
	same(t, x.n.Session(), 1, "Session")
	step(api.ChargeAsked, api.ChargeAsked, sent(toStation, 1, 0, note(api.NotePlug, 0, 0, proof, 0)), back(toVehicle, 1), sent(toOperator, 1, 1, note(api.NoteAuth, 1, 0, proof, 0)), sent(backStation, 1, 0, note(api.NoteLease, 1, 60, 0, 100)))
	step(api.ChargeAsked, api.ChargeAsked, back(toVehicle, 1), sent(toOperator, 1, 1, note(api.NoteAuth, 1, 0, proof, 0)), back(backStation, 1), sent(toPayer, 1, 0, note(api.NoteAsk, 1)))
	step(api.ChargeAsked, api.ChargeAsked, sent(toOperator, 2, 1, note(api.NoteLeased, 1)), back(backStation, 1), sent(toPayer, 1, 0, note(api.NoteAsk, 1)), sent(backOperator, 1, 1, note(api.NoteApprove, 1)))
	step(api.ChargeAsked, api.ChargeFlowing, sent(toOperator, 2, 1, note(api.NoteLeased, 1)), sent(backStation, 2, 2, note(api.NoteStart, 1)), back(toPayer, 1), sent(backOperator, 1, 1, note(api.NoteApprove, 1)))
	same(t, x.n.Flowing(), 0, "Flowing before the offer")
	step(api.ChargeFlowing, api.ChargeFlowing, sent(toVehicle, 1, 1, note(api.NoteOffer, 1, 0, 0)), back(toOperator, 2), sent(backStation, 2, 2, note(api.NoteStart, 1)), back(toPayer, 1))
	step(api.ChargeFlowing, api.ChargeFlowing, back(toStation, 1), sent(toVehicle, 1, 1, note(api.NoteOffer, 1, 0, 0)), sent(toOperator, 3, 2, note(api.NoteRecord, 1, 60, 0, 6)))
	same(t, x.n.Flowing(), 60, "Flowing")
	step(api.ChargeFlowing, api.ChargeFlowing, back(toStation, 1), sent(toOperator, 3, 2, note(api.NoteRecord, 1, 60, 0, 6)), sent(backStation, 3, 3, note(api.NoteAcked, 1)))
	step(api.ChargeFlowing, api.ChargeFlowing, sent(toOperator, 4, 3, note(api.NoteRecord, 1, 120, 0, 8)), sent(backStation, 3, 3, note(api.NoteAcked, 1)))
	x.tick(5)
	x.deliverAll()
	x.unplug()
	x.phases(api.ChargeEnded, api.ChargeClosing)
	same(t, x.n.Plugged(), false, "Plugged")
	x.tick(70)
	same(t, x.n.Flowing(), 0, "Flowing without the plug")
	x.flies(sent(toOperator, 5, 4, note(api.NoteFinal, 1, 5, 0, 10)), sent(backStation, 4, 4, note(api.NoteAcked, 1)))
	x.deliverAll()
	bill := note(api.NoteBill, 1, 185, 0, 10)
	same(t, answerOf(x.n.Bill(api.PartyOperator, 1)), good(api.Bill{Session: 1, In: 185, Amount: 10}), "Bill")
	same(t, answerOf(x.n.Bill(api.PartyStation, 1)), bad[api.Bill](api.ErrNone), "Bill")
	step(api.ChargeEnded, api.ChargeIdle, sent(toOperator, 5, 4, note(api.NoteFinal, 1, 5, 0, 10)), sent(backStation, 5, 5, bill), sent(toPayer, 2, 1, bill))
	same(t, answerOf(x.n.Bill(api.PartyVehicle, 1)), bad[api.Bill](api.ErrNone), "Bill")
	step(api.ChargeEnded, api.ChargeIdle, sent(toVehicle, 2, 1, bill), back(toOperator, 5), sent(backStation, 5, 5, bill), sent(toPayer, 2, 1, bill), back(backOperator, 2))
	x.billed(1, 185, 0, 10)
}

// P9.7: kinds that there are not.
func TestKinds(t *testing.T) {
	x := flowing(t)
	for _, kind := range []int{0, 10, -1, 11, 100, math.MinInt, math.MaxInt, 1 << 32, 1<<32 + 1, -9} {
		x.do(api.Action{Kind: kind}, api.ErrArg)
		x.do(api.Action{Kind: kind, A: 1, B: 1, C: 1}, api.ErrArg)
	}
	for kind := 1; kind <= 9; kind++ { // what a kind does not use is not looked at
		for _, y := range wildNumbers() {
			c := x.clone()
			a := map[int]api.Action{
				api.DoPlug: {A: 0, B: 0, C: y}, api.DoUnplug: {A: y, B: y, C: y}, api.DoTick: {A: 5, B: y, C: y}, api.DoDeliver: {A: 0, B: y, C: y}, api.DoDrop: {A: 0, B: y, C: y},
				api.DoDouble: {A: 0, B: y, C: y}, api.DoHalt: {A: y, B: y, C: y}, api.DoLease: {A: 1, B: 1, C: 1}, api.DoPay: {A: 0, B: y, C: y},
			}[kind]
			a.Kind = kind
			if kind == api.DoPlug {
				c.unplug()
			}
			c.tick(0)
			c.tick(0)
			c.do(a, api.OK)
		}
	}
}

// P9.7: the errors of DoPlug, in their order.
func TestErrorsOfPlug(t *testing.T) {
	x := newNets(t, contracts(2, 0, 40))
	for _, i := range wildIndexes(3) {
		x.do(api.Action{Kind: api.DoPlug, A: int64(i)}, api.ErrRange)
		x.do(api.Action{Kind: api.DoPlug, A: int64(i), B: 2}, api.ErrRange)
	}
	for _, b := range []int64{-1, 2, 3, math.MinInt64, math.MaxInt64, 1 << 32} {
		x.do(api.Action{Kind: api.DoPlug, A: 0, B: b}, api.ErrRange)
		x.do(api.Action{Kind: api.DoPlug, A: 1, B: b}, api.ErrRange)
	}
	x.do(api.Action{Kind: api.DoPlug, A: 1}, api.ErrOver)
	for range 2 {
		x.plug(0)
		x.do(api.Action{Kind: api.DoPlug, A: 0}, api.ErrState)
		x.do(api.Action{Kind: api.DoPlug, A: 3, B: 2}, api.ErrState)
		x.do(api.Action{Kind: api.DoPlug, A: 1}, api.ErrState)
		x.unplug()
	}
	x.do(api.Action{Kind: api.DoPlug, A: 0}, api.ErrOver) // the numbers of plugs count for each contract
	for range 15 {
		x.plug(2)
		x.unplug()
	}
	x.do(api.Action{Kind: api.DoPlug, A: 2, B: 2}, api.ErrRange)
	x.do(api.Action{Kind: api.DoPlug, A: 2}, api.ErrFull) // 17 notes wait
	x.do(api.Action{Kind: api.DoPlug, A: 0}, api.ErrOver)
	x.tick(0)
	x.do(api.Action{Kind: api.DoPlug, A: 2, B: 1}, api.ErrFull)
	x.deliverAll()
	x.do(api.Action{Kind: api.DoPlug, A: 2}, api.ErrFull)
	x.tick(0)
	x.deliverAll() // behind the answer 16 notes wait
	x.plug(2)
	x.phases(api.ChargeAsked, api.ChargeIdle)
	x.do(api.Action{Kind: api.DoPlug, A: 2}, api.ErrState)
	x.unplug()
	x.do(api.Action{Kind: api.DoPlug, A: 2}, api.ErrFull)
	x.settle(100)
	x.plug(2)
	x.settle(100)
	x.phases(api.ChargeFlowing, api.ChargeFlowing)
}

// P9.7, P9.17: what waits for the vehicle can let it wait, too: of each session that the operator ends, more is told than arrives.
func TestPlugWhenMuchWaitsForTheVehicle(t *testing.T) {
	x := newNets(t, contracts(100), every(1000))
	full := 0
	for i := range 60 {
		e := x.try(api.Action{Kind: api.DoPlug})
		waits := x.m.lines[toVehicle].waiting()
		if waits > 16 {
			same(t, e, api.ErrFull, "DoPlug when so many notes wait", waits)
			full++
			break
		}
		same(t, e, api.OK, "DoPlug when so many notes wait", waits)
		x.over(toVehicle) // what was told before arrives, of which the vehicle tells the station with its next note
		x.over(toStation)
		for range 9 {
			x.over(toOperator, backStation, toPayer, backOperator)
		}
		x.phases(api.ChargeAsked, api.ChargeFlowing)
		x.halt()
		for range 9 {
			x.over(toOperator, backStation, toPayer, backOperator)
		}
		same(t, x.n.Session(), i+1, "Session")
		x.unplug()
	}
	same(t, full, 1, "how often the line was full")
	x.settle(500)
	for session := 1; session <= x.n.Session(); session++ {
		x.billed(session, 0, 0, 10)
	}
}

// P9.7, P9.15: wrong proofs.
func TestWrongProofs(t *testing.T) {
	x := newNets(t, func(d *api.Deal) { d.Contracts = []api.Contract{contract(11, 4), last(1)} })
	for i, c := range []int64{0, 1, 0} {
		x.do(api.Action{Kind: api.DoPlug, A: c, B: 1}, api.OK)
		x.tick(0)
		plug := x.n.Flying()[0].Packet.Note
		want := (int64(proofOf(x.m.d.Contracts[c], int(c), i/2)) + 1) % prime
		same(t, plug, api.Note{Kind: api.NotePlug, A: c, B: want, C: int64(i / 2)}, "the note of a wrong plug")
		x.settle(50)
		x.phases(api.ChargeEnded, api.ChargeIdle)
		same(t, x.n.Session(), i+1, "Session")
		x.notBilled(i + 1)
		x.do(api.Action{Kind: api.DoHalt}, api.ErrState)
		x.tick(50)
		x.unplug()
		x.settle(50)
		x.notBilled(i + 1)
	}
	x.plug(1) // the pad 1 is right
	x.settle(50)
	x.phases(api.ChargeFlowing, api.ChargeFlowing)
	same(t, x.n.Session(), 4, "Session")
}

// P9.7: the plug is taken out in every phase of the station.
func TestUnplug(t *testing.T) {
	x := newNets(t, contracts(9))
	x.do(api.Action{Kind: api.DoUnplug}, api.ErrState)
	x.plug(0)
	x.unplug()
	x.phases(api.ChargeEnded, api.ChargeIdle)
	x.do(api.Action{Kind: api.DoUnplug}, api.ErrState)
	x.settle(50) // the station refuses it
	same(t, x.n.Session(), 0, "Session")
	x.phases(api.ChargeEnded, api.ChargeIdle)
	x.plug(0)
	x.over(toStation)
	x.unplug()
	x.phases(api.ChargeEnded, api.ChargeAsked)
	x.settle(50) // the session is gone, and is ended as soon as it is allowed
	x.phases(api.ChargeEnded, api.ChargeIdle)
	x.billed(1, 0, 0, 10)
	x.plug(0)
	x.settle(50)
	x.unplug()
	x.phases(api.ChargeEnded, api.ChargeClosing)
	x.plug(0)
	x.unplug()
	x.phases(api.ChargeEnded, api.ChargeClosing)
	x.settle(50)
	x.phases(api.ChargeEnded, api.ChargeIdle)
	x.billed(2, 0, 0, 10)
	same(t, x.n.Session(), 2, "Session")
}

// P9.7: a session that is gone stays gone when the plug is in again; the vehicle gets no offer for it, and its new plug is refused.
func TestGone(t *testing.T) {
	x := newNets(t, contracts(9))
	x.lease(50, 50, 500)
	x.plug(0)
	x.over(toStation, backStation)
	x.unplug()
	x.plug(0)
	for range 9 {
		x.over(toOperator, backStation, toPayer, backOperator)
	}
	x.phases(api.ChargeAsked, api.ChargeIdle)
	x.settle(50) // the new plug comes behind this
	x.phases(api.ChargeFlowing, api.ChargeFlowing)
	same(t, x.n.Session(), 2, "Session")
	same(t, answerOf(x.n.Bill(api.PartyVehicle, 1)), good(api.Bill{Session: 1, Amount: 10}), "Bill")
	y := newNets(t, contracts(9))
	y.plug(0)
	y.over(toStation)
	y.unplug()
	y.plug(0)
	y.settle(50) // the new plug comes before this
	y.phases(api.ChargeEnded, api.ChargeIdle)
	same(t, y.n.Session(), 1, "Session")
	y.unplug()
	y.plug(0) // the next session is not gone
	y.settle(50)
	y.phases(api.ChargeFlowing, api.ChargeFlowing)
}

// P9.7: a note of an old plug that comes late begins a session, but the vehicle does not take the offer.
func TestOldPlug(t *testing.T) {
	x := newNets(t, contracts(9, 9))
	x.lease(50, 50, 500)
	x.plug(0)
	x.unplug()
	x.plug(1)
	x.settle(4)
	x.settle(9)
	x.phases(api.ChargeEnded, api.ChargeFlowing) // the new plug is refused
	x.tick(50, 50)
	same(t, x.n.Flowing(), 0, "Flowing")
	x.unplug()
	x.settle(50)
	x.billed(1, 0, 0, 10)
	same(t, answerOf(x.n.Owed(0)), good[int64](10), "Owed")
	same(t, answerOf(x.n.Owed(1)), good[int64](0), "Owed")
	y := newNets(t, contracts(9, 9))
	y.plug(0)
	y.unplug()
	y.plug(1)
	y.over(toStation) // just the old plug has come
	for range 5 {
		y.over(toVehicle, toOperator, backStation, toPayer, backOperator)
	}
	y.phases(api.ChargeAsked, api.ChargeFlowing) // the vehicle does not take the offer
	z := newNets(t, contracts(9, 9))
	z.do(api.Action{Kind: api.DoPlug, A: 0, B: 1}, api.OK)
	z.unplug()
	z.plug(1)
	z.over(toStation)
	for range 5 {
		z.over(toVehicle, toOperator, backStation, toPayer, backOperator)
	}
	z.phases(api.ChargeAsked, api.ChargeIdle) // it does not give up, either
	z.settle(50)
	z.phases(api.ChargeFlowing, api.ChargeFlowing)
	same(t, z.n.Session(), 2, "Session")
}

// P9.7: the same number of a plug of another contract is not the last plug.
func TestPlugOfAnotherContract(t *testing.T) {
	for _, wrong := range []int64{0, 1} {
		for _, later := range [][2]int64{{0, 1}, {1, 0}, {0, 0}} {
			x := newNets(t, contracts(9, 9))
			x.do(api.Action{Kind: api.DoPlug, A: later[0], B: wrong}, api.OK)
			x.over(toStation)
			x.unplug()
			x.plug(later[1])
			for range 6 {
				x.over(toVehicle, toOperator, backStation, toPayer, backOperator)
			}
			x.phases(api.ChargeAsked, api.ChargeIdle) // what comes for the old plug is not for it
		}
	}
}
