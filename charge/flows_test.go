package charge_test

import (
	"math"
	"testing"

	"coulomb/api"
)

// flows lets a tick pass in which the vehicle wants a power, and checks how much flows.
func (x twoNets) flows(wanted, want int64) {
	x.t.Helper()
	x.tick(wanted)
	same(x.t, x.n.Flowing(), want, "Flowing, of", wanted)
}

// P9.7, P9.8: what flows is what the lease allows, as long as it does.
func TestPowers(t *testing.T) {
	x := newNets(t, slack(20), every(1000), limits(mostPower, mostPower))
	x.plug(0)
	x.settle(50)
	for _, p := range []int64{0, 1, -1, mostPower, -mostPower} {
		x.flows(p, 0) // without a lease
	}
	x.lease(100, 40, 20)
	until := x.n.Time() + 20
	x.flows(50, 0) // it is told
	x.deliverAll()
	for _, y := range [][2]int64{{0, 0}, {1, 1}, {-1, -1}, {99, 99}, {100, 100}, {101, 100}, {mostPower, 100}, {-39, -39}, {-40, -40}, {-41, -40}, {-mostPower, -40}} {
		x.flows(y[0], y[1])
	}
	a, b := x.n.Count(1)
	same(t, pair{a, b}, pair{400, 160}, "Count")
	for x.n.Time() < until {
		x.flows(7, 7)
	}
	x.flows(7, 0) // the lease is over
	x.flows(-7, 0)
	x.lease(0, 30, 50)
	x.settle(9)
	x.flows(70, 0)
	x.flows(-70, -30)
	x.lease(mostPower, 0, longest)
	x.flows(5, 0)
	x.settle(9)
	x.flows(-70, 0)
	for range 500 {
		x.flows(mostPower, mostPower)
	}
	x.lease(3, 3, 50) // a new one is taken, also if it allows less
	x.flows(5, 5)
	x.settle(9)
	x.flows(5, 3)
	x.settle(1)
	same(t, x.n.Flowing(), 0, "Flowing in a tick of Settle")
	x.flows(5, 3)
	x.unplug()
	same(t, x.n.Flowing(), 3, "Flowing in the last tick")
	x.flows(5, 0)
	x.settle(50)
	same(t, x.n.Phase(api.PartyStation), api.ChargeIdle, "Phase")
}

// P9.7: the errors of DoTick.
func TestErrorsOfTick(t *testing.T) {
	x := flowing(t)
	x.flows(60, 60)
	for _, p := range append(wildNumbers(), mostPower+1, -mostPower-1, math.MinInt64+5) {
		if p != -1 {
			x.do(api.Action{Kind: api.DoTick, A: p}, api.ErrRange)
			same(t, x.n.Flowing(), 60, "Flowing behind an error")
		}
	}
	x.flows(-1, -1)
	x.flows(mostPower, 100)
	x.flows(-mostPower, -100)
}

// told are the notes of a kind that the station has told the operator.
func (x twoNets) told(kind int) []api.Note {
	var l []api.Note
	for _, n := range x.m.lines[toOperator].sent {
		if n.Kind == kind {
			l = append(l, n)
		}
	}
	return l
}

// P9.7: a record is told when there are Every ticks; with Slack records without an answer nothing flows, and no tick counts.
func TestRecords(t *testing.T) {
	for _, y := range []struct{ every, slack int }{{1, 1}, {1, 20}, {2, 3}, {5, 1}, {7, 20}, {1000, 2}} {
		x := newNets(t, every(y.every), slack(y.slack))
		x.lease(100, 100, longest)
		x.plug(0)
		for x.n.Phase(api.PartyVehicle) != api.ChargeFlowing {
			x.over(toStation, toVehicle, toOperator, backStation, toPayer, backOperator)
		}
		first := x.m.ticks
		sum, before := int64(0), len(x.told(api.NoteRecord))
		flowed := 0
		for i := range y.every*y.slack + 30 {
			x.tick(int64(i%90) + 1)
			if x.n.Flowing() > 0 {
				flowed++
			}
			sum += x.n.Flowing()
			x.dropAll()
		}
		same(t, flowed, y.every*(y.slack-before)-first, "how many ticks something flows when nothing is answered", y)
		l := x.told(api.NoteRecord)
		same(t, len(l), y.slack, "how many records are told", y)
		told := int64(0)
		for i, n := range l[before:] {
			told += n.A
			same(t, n.C-l[0].C, int64((i+before)*y.every), "when a record is told", y, i)
		}
		same(t, told, sum, "what the records are about", y)
		x.unplug()
		same(t, x.told(api.NoteFinal)[0], api.Note{Kind: api.NoteFinal, Session: 1, C: x.n.Time()}, "the final, with nothing behind the records")
		x.settle(mostRounds)
		x.billed(1, sum, 0, 10)
	}
}

// P9.7: with an answer it goes on.
func TestAnswersOfRecords(t *testing.T) {
	x := flowing(t, every(3), slack(2), limits(50, 50))
	x.settle(1)
	for len(x.told(api.NoteRecord)) < 20 {
		x.tick(7)
		x.dropAll()
		if x.n.Flowing() == 0 {
			count := len(x.told(api.NoteRecord))
			for x.n.Flowing() == 0 {
				x.tick(7)
				x.deliverAll()
			}
			same(t, len(x.told(api.NoteRecord)), count, "how many records are told when nothing flows")
		}
	}
	x.unplug()
	x.settle(50)
	in, _ := x.n.Count(1)
	x.billed(1, in, 0, 10)
}

// P9.7: in the beginning of a session, nothing is left of the one before.
func TestNothingIsLeft(t *testing.T) {
	x := newNets(t, contracts(9), every(9), slack(1))
	x.lease(100, 100, longest)
	for session := 1; session <= 4; session++ {
		x.plug(0)
		for x.n.Phase(api.PartyVehicle) != api.ChargeFlowing {
			x.over(toStation, toVehicle, toOperator, backStation, toPayer, backOperator)
		}
		x.flows(9, 9) // no record is without an answer
		for range session {
			x.flows(-9, -9)
		}
		for range 20 * (session % 2) { // a record is told, and not answered
			x.tick(9)
			x.dropAll()
		}
		same(t, x.n.Flowing() == 0, session%2 == 1, "whether nothing flows in the end of the session", session)
		in, back := x.n.Count(session)
		x.unplug()
		x.settle(500)
		x.billed(session, in, back, 10)
	}
}

// on is the first packet on a line.
func (x twoNets) on(line int) api.Sent {
	x.t.Helper()
	for _, s := range x.n.Flying() {
		if s.Line == line {
			return s
		}
	}
	x.t.Fatalf("no packet is on the line %d", line)
	return api.Sent{}
}

// P9.7: packets are delivered, dropped and doubled by their indexes.
func TestPackets(t *testing.T) {
	x := flowing(t)
	x.dropAll()
	for _, kind := range []int{api.DoDeliver, api.DoDrop, api.DoDouble} {
		for _, i := range wildIndexes(0) {
			x.do(api.Action{Kind: kind, A: int64(i)}, api.ErrRange)
		}
	}
	x.tick(1, 2, 3, 4, 5)
	l := x.n.Flying()
	n := len(l)
	for _, kind := range []int{api.DoDeliver, api.DoDrop, api.DoDouble} {
		for _, i := range wildIndexes(n) {
			x.do(api.Action{Kind: kind, A: int64(i)}, api.ErrRange)
		}
	}
	x.flies(l...)
	x.do(api.Action{Kind: api.DoDrop, A: 1}, api.OK)
	x.flies(append(append([]api.Sent{}, l[:1]...), l[2:]...)...)
	x.do(api.Action{Kind: api.DoDouble, A: 0}, api.OK)
	x.flies(append(append(append([]api.Sent{}, l[:1]...), l[2:]...), l[0])...)
	x.do(api.Action{Kind: api.DoDeliver, A: int64(n - 1)}, api.OK)
	x.flies(append(append([]api.Sent{}, l[:1]...), l[2:]...)...)
	x.do(api.Action{Kind: api.DoDeliver, A: int64(n - 1)}, api.ErrRange)
	x.do(api.Action{Kind: api.DoDeliver, A: int64(n - 2)}, api.OK)
	x.do(api.Action{Kind: api.DoDrop, A: 0}, api.OK)
	x.flies(l[2 : n-1]...)
}

// P9.7: a note whose packets are lost is told again, and one whose packet is doubled arrives once.
func TestLostAndDoubled(t *testing.T) {
	x := newNets(t)
	x.lease(50, 0, 100)
	for range 5 {
		x.tick(0)
		x.flies(sent(backStation, 1, 0, api.Note{Kind: api.NoteLease, Session: 1, A: 50, C: 100}))
		x.dropAll()
	}
	x.tick(0)
	for range 4 {
		x.do(api.Action{Kind: api.DoDouble}, api.OK)
	}
	x.deliverAll()
	x.tick(0)
	same(t, len(x.told(api.NoteLeased)), 1, "how often a lease is answered")
	x.settle(9)
	same(t, len(x.told(api.NoteLeased)), 1, "how often a lease is answered")
}

// P9.7: at most 200 packets are under way; the first ones are lost behind a tick, and what is doubled is lost.
func TestManyPackets(t *testing.T) {
	x := newNets(t)
	x.lease(50, 0, 100)
	x.tick(0)
	for range mostFlight - 1 {
		x.do(api.Action{Kind: api.DoDouble}, api.OK)
	}
	same(t, len(x.n.Flying()), mostFlight, "how many packets are under way")
	first := x.n.Flying()
	for _, i := range []int64{0, 100, mostFlight - 1} {
		x.do(api.Action{Kind: api.DoDouble, A: i}, api.OK)
		x.flies(first...)
	}
	x.plug(0)
	x.tick(0) // two more
	l := x.n.Flying()
	same(t, len(l), mostFlight, "how many packets are under way")
	sameList(t, l[:mostFlight-2], first[2:], "Flying: the first ones are lost")
	same(t, [2]int{l[mostFlight-2].Line, l[mostFlight-1].Line}, [2]int{toStation, backStation}, "the last ones")
	x.do(api.Action{Kind: api.DoDrop, A: 5}, api.OK)
	x.tick(0) // one of two has room
	same(t, len(x.n.Flying()), mostFlight, "how many packets are under way")
	x.do(api.Action{Kind: api.DoDrop, A: 5}, api.OK)
	x.do(api.Action{Kind: api.DoDouble, A: mostFlight - 2}, api.OK)
	same(t, len(x.n.Flying()), mostFlight, "how many packets are under way")
	x.do(api.Action{Kind: api.DoDeliver, A: mostFlight}, api.ErrRange)
	x.settle(50)
	x.flies()
	x.phases(api.ChargeFlowing, api.ChargeFlowing)
}

// P9.7: the operator ends a session.
func TestHalt(t *testing.T) {
	x := newNets(t, contracts(9), every(1000))
	x.do(api.Action{Kind: api.DoHalt}, api.ErrState)
	x.plug(0)
	x.over(toStation)
	x.do(api.Action{Kind: api.DoHalt}, api.ErrState) // the operator does not know of it
	x.over(toOperator)
	x.halt() // it has opened it; at the station this comes before it may start
	x.settle(50)
	x.phases(api.ChargeFlowing, api.ChargeFlowing)
	x.lease(50, 50, 500)
	x.settle(50)
	x.flows(70, 50)
	x.halt()
	x.halt() // the second one has no effect
	x.flows(70, 50)
	x.deliverAll()
	x.phases(api.ChargeFlowing, api.ChargeClosing)
	x.flows(70, 0)
	x.settle(50)
	x.phases(api.ChargeFlowing, api.ChargeIdle)
	x.billed(1, 100, 0, 10)
	x.do(api.Action{Kind: api.DoHalt}, api.ErrState)
	x.flows(70, 0) // the vehicle does not know, but nothing flows
	x.unplug()
	x.phases(api.ChargeEnded, api.ChargeIdle)
	x.plug(0)
	x.settle(50)
	x.phases(api.ChargeFlowing, api.ChargeFlowing)
	x.flows(70, 50)
	for range 33 {
		x.halt()
	}
	x.do(api.Action{Kind: api.DoHalt}, api.ErrFull)
	x.unplug()
	x.over(toOperator)
	x.do(api.Action{Kind: api.DoHalt}, api.ErrState) // before ErrFull
	x.plug(0)
	x.settle(500) // what is left of the halts is for an old session
	x.unplug()
	x.settle(500)
	x.billed(2, 50, 0, 10)
	same(t, x.n.Phase(api.PartyStation), api.ChargeIdle, "Phase")
}

// P9.7: a halt of a session that was ended otherwise does not end the next one.
func TestLateHalt(t *testing.T) {
	x := newNets(t, contracts(9), every(1000))
	x.plug(0)
	x.settle(50)
	x.halt()
	x.unplug()
	x.settle(50)
	x.billed(1, 0, 0, 10)
	x.plug(0)
	x.settle(50)
	x.phases(api.ChargeFlowing, api.ChargeFlowing)
	x.halt()
	x.tick(0)
	same(t, x.on(backStation).Packet.Note, api.Note{Kind: api.NoteHalt, Session: 2}, "the note of a halt")
}

// P9.7: the errors of DoLease, in their order.
func TestErrorsOfLease(t *testing.T) {
	x := newNets(t, limits(100, 50))
	x.tick(0, 0, 0)
	lease := func(a, b, c int64, want api.Errno) {
		t.Helper()
		x.do(api.Action{Kind: api.DoLease, A: a, B: b, C: c}, want)
	}
	for _, y := range append(wildNumbers(), mostPower+1) {
		lease(y, 1, 5, api.ErrArg)
		lease(1, y, 5, api.ErrArg)
		lease(1, 1, y, api.ErrArg)
		lease(101, 1, y, api.ErrArg)
	}
	for _, c := range []int64{0, -1, longest + 1, math.MaxInt64 - 3, math.MaxInt64 - 2, math.MinInt64} {
		lease(1, 1, c, api.ErrArg)
	}
	lease(101, 1, 5, api.ErrLimit)
	lease(1, 51, 5, api.ErrLimit)
	lease(mostPower, mostPower, 5, api.ErrLimit)
	lease(100, 50, 1, api.OK)
	lease(0, 0, longest, api.OK)
	x.tick(0)
	x.flies(sent(backStation, 1, 0, api.Note{Kind: api.NoteLease, Session: 1, A: 100, B: 50, C: 4}))
	for range 31 {
		lease(1, 1, 5, api.OK)
	}
	for _, c := range []int64{0, 5, longest + 1} { // 33 notes wait
		lease(1, 1, c, api.ErrFull)
		lease(-1, 1, c, api.ErrFull)
		lease(101, 1, c, api.ErrFull)
	}
	x.settle(500)
	lease(100, 50, 5, api.OK)
}

// P9.7, P9.14: a lease that the station may still use is reserved.
func TestLeasesOfNets(t *testing.T) {
	x := flowing(t, limits(100, 100), every(1000))
	x.settle(50)
	x.lease(30, 0, 10) // it comes too late, and all of the old one may be used
	for range 12 {
		x.flows(100, 100)
		x.dropAll()
	}
	x.tick(0)
	x.deliverAll()
	x.flows(100, 0) // it is over as soon as it has come
	x.lease(100, 0, 50)
	x.lease(20, 60, 40)
	x.lease(100, 100, 30)
	until := x.n.Time() + 30
	x.settle(50)
	for x.n.Time() < until {
		x.flows(-100, -100)
	}
	x.flows(-100, 0) // the older ones would allow more, but the newest one counts
}

// P9.7: the site of the operator learns which leases the station has taken, so that they do not become too many.
func TestManyLeasesOfNets(t *testing.T) {
	x := newNets(t)
	for range 3 * mostLeases {
		x.lease(100, 100, longest)
		x.settle(9)
	}
	for i := range 33 {
		x.lease(100, int64(i), longest)
	}
	x.do(api.Action{Kind: api.DoLease, A: 1, B: 1, C: 1}, api.ErrFull)
	x.settle(500)
	x.lease(1, 1, 1)
	x.settle(9)
}

// P9.7, P9.9: what is owed, and when the payer denies a session.
func TestCredit(t *testing.T) {
	for _, y := range []struct {
		credit  int64
		started int // with a fee of 10 for each
	}{{0, 1}, {9, 1}, {10, 2}, {11, 2}, {19, 2}, {20, 3}, {1000, 6}} {
		x := newNets(t, contracts(20, 20), credit(y.credit))
		started := 0
		for i := range 6 {
			x.plug(0)
			x.settle(50)
			if x.n.Phase(api.PartyStation) != api.ChargeFlowing {
				x.phases(api.ChargeEnded, api.ChargeIdle)
				x.notBilled(i + 1)
				x.do(api.Action{Kind: api.DoHalt}, api.ErrState) // it is closed at the operator, too
			} else {
				started++
			}
			x.unplug()
			x.settle(50)
			same(t, answerOf(x.n.Owed(0)), good(int64(10*started)), "Owed")
		}
		same(t, started, y.started, "how many sessions are started with the credit", y.credit)
		x.plug(1) // another contract owes nothing
		x.settle(50)
		x.phases(api.ChargeFlowing, api.ChargeFlowing)
		x.unplug()
		x.settle(50)
		same(t, answerOf(x.n.Owed(1)), good[int64](10), "Owed")
		x.do(api.Action{Kind: api.DoPay, A: 0}, api.OK)
		same(t, answerOf(x.n.Owed(0)), good[int64](0), "Owed behind DoPay")
		same(t, answerOf(x.n.Owed(1)), good[int64](10), "Owed of another contract")
		x.billed(1, 0, 0, 10)
		x.plug(0)
		x.settle(50)
		x.phases(api.ChargeFlowing, api.ChargeFlowing)
		x.do(api.Action{Kind: api.DoPay, A: 0}, api.OK) // before the bill
		x.unplug()
		x.settle(50)
		same(t, answerOf(x.n.Owed(0)), good[int64](10), "Owed: a new bill is not paid")
	}
	x := newNets(t)
	for _, i := range wildIndexes(1) {
		x.do(api.Action{Kind: api.DoPay, A: int64(i)}, api.ErrRange)
		same(t, answerOf(x.n.Owed(i)), bad[int64](api.ErrRange), "Owed", i)
	}
}

// P9.7, P9.9: who gives back more than he takes is owed something, and gets his sessions.
func TestNegativeAmounts(t *testing.T) {
	x := newNets(t, contracts(9), credit(0), every(2), slack(20), limits(mostPower, mostPower), prices(flat(5, 1000, 3)))
	x.lease(mostPower, mostPower, longest)
	x.plug(0)
	x.settle(50)
	x.flows(-36000, -36000)
	x.flows(-36000, -36000)
	x.flows(-3599, -3599)
	x.unplug()
	x.settle(50)
	amount := int64(0)
	for _, n := range append(x.told(api.NoteRecord), x.told(api.NoteFinal)...) {
		amount -= n.B * 1000 / wattHour
	}
	x.billed(1, 0, 75599, 3+amount)
	same(t, amount < -15, true, "whether the amount is below 0")
	same(t, answerOf(x.n.Owed(0)), good(3+amount), "Owed")
	x.plug(0)
	x.settle(50)
	x.phases(api.ChargeFlowing, api.ChargeFlowing)
}

// P9.8, P9.9: numbers of parties and sessions that there are not.
func TestNoSuchThings(t *testing.T) {
	x := flowing(t)
	x.flows(60, 60)
	x.unplug()
	x.settle(50)
	x.billed(1, 60, 0, 10)
	for _, i := range append(wildIndexes(2), 2, 3, 4) {
		same(t, x.n.Phase(i), 0, "Phase", i)
	}
	for _, i := range wildIndexes(4) {
		same(t, answerOf(x.n.Bill(i, 1)), bad[api.Bill](api.ErrRange), "Bill", i, 1)
		same(t, answerOf(x.n.Bill(i, 5)), bad[api.Bill](api.ErrRange), "Bill", i, 5)
	}
	for _, i := range []int{0, 2, 3, -1, math.MinInt, math.MaxInt, 1 << 32} {
		for party := range 4 {
			same(t, answerOf(x.n.Bill(party, i)), bad[api.Bill](api.ErrNone), "Bill", party, i)
		}
		a, b := x.n.Count(i)
		same(t, pair{a, b}, pair{}, "Count", i)
	}
}

// P9.10: for how many ticks a net settles.
func TestSettle(t *testing.T) {
	x := newNets(t)
	same(t, x.settle(0), 0, "Settle of 0")
	same(t, x.settle(1), 1, "Settle of 1")
	same(t, x.settle(mostRounds), 1, "Settle when there is nothing")
	same(t, x.n.Time(), 2, "Time")
	x.lease(50, 50, 100)
	x.tick(0)
	same(t, x.settle(0), 0, "Settle of 0")
	same(t, len(x.n.Flying()), 1, "how many packets are under way")
	same(t, x.settle(mostRounds), 3, "Settle of a lease and its answer")
	same(t, x.n.Time(), 6, "Time")
	for _, most := range []int{-1, mostRounds + 1, math.MinInt, math.MaxInt, 1 << 32} {
		done, e := x.n.Settle(most)
		same(t, answer[int]{done, e}, bad[int](api.ErrRange), "Settle", most)
		x.check()
	}
	y := newNets(t, every(1))
	y.plug(0)
	same(t, y.settle(3), 3, "Settle of 3")
	same(t, y.settle(mostRounds), mostRounds, "Settle when there is always a record")
	y.tick(0)
	y.do(api.Action{Kind: api.DoDouble}, api.OK)
	y.unplug()
	same(t, y.settle(mostRounds) < 30, true, "whether Settle ends")
	y.phases(api.ChargeEnded, api.ChargeIdle)
	y.billed(1, 0, 0, 10)
	z := newNets(t, every(1000))
	z.plug(0)
	same(t, z.settle(mostRounds), 7, "Settle up to the offer, and its answer")
	z.phases(api.ChargeFlowing, api.ChargeFlowing)
}
