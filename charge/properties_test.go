package charge_test

import (
	"math/rand"
	"testing"

	"coulomb/api"
	"coulomb/charge"
)

// watched is a net, and what was seen of it.
type watched struct {
	twoNets
	flowed  map[int]pair               // by sessions, what was taken and given back
	records map[int]map[int64]api.Note // by sessions and times, the records and the final
	plugs   map[int]api.Note           // by sessions, with what the station has asked for them
	started map[int]bool               // the sessions that the station was allowed to start
}

// watch makes a net that is watched.
func watch(t *testing.T, d api.Deal) watched {
	return watched{twoNets{t, newNet(t, d), newNetModel(d)}, map[int]pair{}, map[int]map[int64]api.Note{}, map[int]api.Note{}, map[int]bool{}}
}

// see lets something happen, and looks at the net before and behind it.
func (x watched) see(a api.Action) {
	x.t.Helper()
	plugged, reserved, session := x.n.Plugged(), x.m.reserved(), x.n.Session()
	if x.try(a) == api.OK && a.Kind == api.DoTick {
		p := x.n.Flowing()
		if !plugged && p != 0 || p > reserved.a || -p > reserved.b || p != 0 && p > 0 != (a.A > 0) || p > max(a.A, 0) || p < min(a.A, 0) {
			x.t.Fatalf("%d flows of %d; the plug: %v; reserved: %v", p, a.A, plugged, reserved)
		}
		sum := x.flowed[session]
		if p > 0 {
			sum[0] += p
		} else {
			sum[1] -= p
		}
		x.flowed[session] = sum
	}
	if x.n.Phase(api.PartyStation) == api.ChargeFlowing {
		x.started[x.n.Session()] = true
	}
	for _, s := range x.n.Flying() {
		x.note(s.Packet.Note)
	}
	x.checkBills()
	x.checkSlack()
}

// note notes what is told.
func (x watched) note(n api.Note) {
	switch n.Kind {
	case api.NoteAuth:
		x.plugs[n.Session] = n
	case api.NoteRecord, api.NoteFinal:
		if x.records[n.Session] == nil {
			x.records[n.Session] = map[int64]api.Note{}
		}
		x.records[n.Session][n.C] = n
	}
}

// checkBills checks P9.13: the bills of each session are equal, and about what was counted, and what has flowed.
func (x watched) checkBills() {
	x.t.Helper()
	for session := 1; session <= x.n.Session(); session++ {
		in, back := x.n.Count(session)
		if x.flowed[session] != (pair{in, back}) {
			x.t.Fatalf("in the session %d %v has flowed, and %d and %d are counted", session, x.flowed[session], in, back)
		}
		first := api.Bill{}
		for party := range 4 {
			b, e := x.n.Bill(party, session)
			if e != api.OK {
				continue
			}
			if first == (api.Bill{}) {
				first = b
			}
			if b != first || b.Session != session || b.In != in || b.Back != back {
				x.t.Fatalf("the bill of the party %d is %v, of another one %v; %d and %d are counted", party, b, first, in, back)
			}
		}
	}
}

// checkSlack checks P9.16: of the ticks in which something has flowed, few are in no record that has arrived.
func (x watched) checkSlack() {
	x.t.Helper()
	for session := 1; session <= x.n.Session(); session++ {
		ticks := x.m.flowed[session].ticks
		for _, l := range x.m.records[session] {
			if !l.arrived {
				ticks += l.ticks
			}
		}
		if ticks > x.m.d.Slack*x.m.d.Every {
			x.t.Fatalf("in the session %d something has flowed in %d ticks that are in no record", session, ticks)
		}
	}
}

// finish takes the plug out, and delivers all packets for long enough.
func (x watched) finish() {
	x.t.Helper()
	if x.n.Plugged() {
		x.see(api.Action{Kind: api.DoUnplug})
	}
	for range 500 {
		x.see(api.Action{Kind: api.DoTick})
		for len(x.m.flying) > 0 {
			x.do(api.Action{Kind: api.DoDeliver}, api.OK)
		}
	}
	same(x.t, x.n.Phase(api.PartyStation), api.ChargeIdle, "Phase in the end")
	for i := range x.m.lines {
		same(x.t, x.m.lines[i].waiting(), 0, "how many notes wait in the end")
	}
}

// checkEnd checks P9.15, P9.17 and P9.18, when all is over.
func (x watched) checkEnd() {
	x.t.Helper()
	used := map[pair]bool{}
	for session := 1; session <= x.n.Session(); session++ {
		p := x.plugs[session]
		isRight := p.B == int64(proofOf(x.m.d.Contracts[p.A], int(p.A), int(p.C)))
		if x.started[session] && (!isRight || used[pair{p.A, p.C}]) {
			x.t.Fatalf("the session %d is started with %v", session, p)
		}
		used[pair{p.A, p.C}] = true
		b, e := x.n.Bill(api.PartyOperator, session)
		for party := range 4 {
			same(x.t, answerOf(x.n.Bill(party, session)), answer[api.Bill]{b, e}, "Bill in the end", party, session)
		}
		if x.started[session] && e != api.OK || !isRight && (e == api.OK || x.flowed[session] != pair{}) {
			x.t.Fatalf("the bill of the session %d: %v, %d; started: %v; %v", session, b, e, x.started[session], p)
		}
		if e == api.OK {
			x.checkAmount(b)
		}
	}
}

// checkAmount checks P9.18: an amount is that of the records, and nearly that of the sums.
func (x watched) checkAmount(b api.Bill) {
	x.t.Helper()
	t := x.m.d.Tariff
	amount := t.Fee
	for at, n := range x.records[b.Session] {
		cost, e := charge.Cost(t, at, n.A, n.B)
		same(x.t, e, api.OK, "Cost of", n)
		amount += cost
	}
	same(x.t, b.Amount, amount, "the amount of", b)
	if len(t.Bands) == 1 {
		whole, e := charge.Cost(t, 0, b.In, b.Back)
		same(x.t, e, api.OK, "Cost of", b)
		if d := b.Amount - t.Fee - whole; d > int64(len(x.records[b.Session])) || -d > int64(len(x.records[b.Session])) {
			x.t.Fatalf("the amount of %v is %d away from that of the sums, with %d records", b, d, len(x.records[b.Session]))
		}
	}
}

// P9.13 to P9.18, G4, G5: what holds for each net, whatever happens to it.
func TestPropertiesOfNets(t *testing.T) {
	r := chance(9)
	all := moods()
	sessions, bills := 0, 0
	for run := range 105 {
		x := watch(t, drawPlainDeal(r))
		how := all[run%len(all)]
		for range 9 {
			for range r.Intn(80) {
				x.see(drawAction(r, how, x.m))
			}
			if r.Intn(2) == 0 {
				x.settleSeen(r.Intn(20))
			}
		}
		x.finish()
		x.checkEnd()
		sessions += x.n.Session()
		bills += len(x.m.bills[api.PartyVehicle])
	}
	if bills < 100 || sessions < bills+20 {
		t.Errorf("there are just %d bills, and %d sessions", bills, sessions)
	}
}

// drawPlainDeal draws a deal, often with one band.
func drawPlainDeal(r *rand.Rand) api.Deal {
	d := drawDeal(r)
	if r.Intn(2) == 0 {
		d.Tariff = flat(drawInt(r, 0, 90000), drawInt(r, 0, 90000), drawInt(r, 0, 20))
	}
	return d
}

// settleSeen does some ticks in which the vehicle wants power, and delivers all packets behind each of them.
func (x watched) settleSeen(ticks int) {
	x.t.Helper()
	for i := range ticks {
		x.see(api.Action{Kind: api.DoTick, A: int64(1-2*(i%3%2)) * x.m.d.Draw})
		for len(x.m.flying) > 0 {
			x.see(api.Action{Kind: api.DoDeliver})
		}
	}
}

// P9.17: notes are told as fast as they can be, and packets arrive in the worst way; none is lost for want of room.
func TestRoom(t *testing.T) {
	r := chance(10)
	for run := range 18 {
		x := newNets(t, contracts(mostPads), every(1), slack(mostSlack), credit(quantities))
		blocked := run % 6 // over this line nothing gets through for long
		for i := range 1500 {
			if i%300 == 299 {
				blocked = r.Intn(6)
			}
			x.hurry(r, blocked)
		}
		if x.n.Plugged() {
			x.unplug()
		}
		x.settle(mostRounds)
		same(t, x.n.Phase(api.PartyStation), api.ChargeIdle, "Phase in the end")
	}
}

// hurry does one of the things that let notes be told, or delivers packets, of one line seldom.
func (x twoNets) hurry(r *rand.Rand, blocked int) {
	x.t.Helper()
	switch r.Intn(8) {
	case 0:
		x.try(api.Action{Kind: api.DoPlug})
	case 1:
		if r.Intn(3) == 0 {
			x.try(api.Action{Kind: api.DoUnplug})
		}
	case 2:
		x.try(api.Action{Kind: api.DoLease, A: 1, B: 1, C: 5})
	case 3:
		x.try(api.Action{Kind: api.DoHalt})
	default:
		x.tick(1)
		for i := 0; i < len(x.m.flying); {
			if x.m.flying[i].Line == blocked && r.Intn(8) > 0 {
				i++
				continue
			}
			x.do(api.Action{Kind: api.DoDeliver, A: int64(i)}, api.OK)
		}
	}
}
