package charge_test

import (
	"maps"
	"slices"
	"testing"

	"coulomb/api"
	"coulomb/charge"
)

// pair are two numbers: a contract and the number of a plug, or what was taken and given back.
type pair [2]int64

// sessionModel is what the operator and the payer keep of a session.
type sessionModel struct {
	open     bool
	bill     api.Bill
	contract int64
	approved bool
	paid     bool
}

// netModel is a net as the chapter describes it.
type netModel struct {
	d                api.Deal
	time, flow       int64
	plugged          bool
	vehicle, station int // phases
	plugs            map[int64]int64
	last, its        pair // of the vehicle's last plug, of the station's session
	mine, session    int  // the session for which the vehicle counts, the last one of the station
	counts           map[int]pair
	gone             bool
	ticks, missing   int
	since            pair
	newest           api.Lease
	site             *siteModel
	used             map[pair]bool
	sessions         map[int]sessionModel
	bills            [4]map[int]api.Bill
	lines            [6]lineModel
	flying           []api.Sent

	lost    bool             // whether a note had no room
	records map[int][]record // by sessions: those that were told, and the last one
	flowed  map[int]record   // what has flowed behind them
}

// record is what a record is about.
type record struct {
	energy  pair
	at      int64
	ticks   int // in which something has flowed
	arrived bool
}

func newNetModel(d api.Deal) *netModel {
	m := &netModel{d: d, plugs: map[int64]int64{}, counts: map[int]pair{}, used: map[pair]bool{}, sessions: map[int]sessionModel{}, records: map[int][]record{}, flowed: map[int]record{}, site: newSiteModel(1, d.Draw, d.Back)}
	for i := range m.bills {
		m.bills[i] = map[int]api.Bill{}
	}
	return m
}

// clone is a copy of the model.
func (m *netModel) clone() *netModel {
	c := *m
	c.plugs, c.counts, c.used, c.sessions, c.site, c.flying = maps.Clone(m.plugs), maps.Clone(m.counts), maps.Clone(m.used), maps.Clone(m.sessions), m.site.clone(), slices.Clone(m.flying)
	for i := range c.bills {
		c.bills[i] = maps.Clone(m.bills[i])
	}
	for i := range c.lines {
		c.lines[i] = m.lines[i].clone()
	}
	c.records, c.flowed = maps.Clone(m.records), maps.Clone(m.flowed)
	for i, l := range c.records {
		c.records[i] = slices.Clone(l)
	}
	return &c
}

// tell tells a note over a line.
func (m *netModel) tell(line, kind, session int, numbers ...int64) {
	n := api.Note{Kind: kind, Session: session}
	for i, x := range numbers {
		*[]*int64{&n.A, &n.B, &n.C}[i] = x
	}
	m.lost = m.lines[line].send(n) != api.OK || m.lost
}

// do is Do.
func (m *netModel) do(a api.Action) api.Errno {
	switch a.Kind {
	case api.DoPlug:
		return m.plug(a)
	case api.DoUnplug:
		return m.unplug()
	case api.DoTick:
		if a.A < -mostPower || a.A > mostPower {
			return api.ErrRange
		}
		m.tick(a.A)
		return api.OK
	case api.DoDeliver, api.DoDrop, api.DoDouble:
		if a.A < 0 || a.A >= int64(len(m.flying)) {
			return api.ErrRange
		}
		m.handle(a.Kind, int(a.A))
		return api.OK
	case api.DoHalt:
		return m.halt()
	case api.DoLease:
		return m.lease(a)
	case api.DoPay:
		return m.pay(a.A)
	}
	return api.ErrArg
}

func (m *netModel) plug(a api.Action) api.Errno {
	number := m.plugs[a.A]
	switch {
	case m.plugged:
		return api.ErrState
	case a.A < 0 || a.A >= int64(len(m.d.Contracts)) || a.B != 0 && a.B != 1:
		return api.ErrRange
	case number >= int64(len(m.d.Contracts[a.A].Pads)):
		return api.ErrOver
	case m.lines[toStation].waiting() > 16 || m.lines[toVehicle].waiting() > 16:
		return api.ErrFull
	}
	m.plugged, m.vehicle, m.last = true, api.ChargeAsked, pair{a.A, number}
	m.plugs[a.A]++
	proof := int64(proofOf(m.d.Contracts[a.A], int(a.A), int(number)))
	m.tell(toStation, api.NotePlug, 0, a.A, (proof+a.B)%prime, number)
	return api.OK
}

func (m *netModel) unplug() api.Errno {
	if !m.plugged {
		return api.ErrState
	}
	m.plugged, m.vehicle = false, api.ChargeEnded
	if m.station == api.ChargeAsked {
		m.gone = true
	}
	if m.station == api.ChargeFlowing {
		m.end()
	}
	return api.OK
}

func (m *netModel) halt() api.Errno {
	last := 0
	for i, s := range m.sessions {
		if s.open {
			last = max(last, i)
		}
	}
	if last == 0 {
		return api.ErrState
	}
	if m.lines[backStation].waiting() > 32 {
		return api.ErrFull
	}
	m.tell(backStation, api.NoteHalt, last)
	return api.OK
}

func (m *netModel) lease(a api.Action) api.Errno {
	if m.lines[backStation].waiting() > 32 {
		return api.ErrFull
	}
	if a.C < 1 || a.C > longest {
		return api.ErrArg
	}
	l, e := m.site.grant(0, a.A, a.B, m.time+a.C, m.time)
	if e == api.OK {
		m.tell(backStation, api.NoteLease, l.Number, l.Draw, l.Back, l.Until)
	}
	return e
}

func (m *netModel) pay(contract int64) api.Errno {
	if contract < 0 || contract >= int64(len(m.d.Contracts)) {
		return api.ErrRange
	}
	for i := range m.bills[api.PartyPayer] {
		if s := m.sessions[i]; s.contract == contract {
			s.paid = true
			m.sessions[i] = s
		}
	}
	return api.OK
}

// owed is what is not paid of a contract.
func (m *netModel) owed(contract int64) int64 {
	sum := int64(0)
	for i, b := range m.bills[api.PartyPayer] {
		if s := m.sessions[i]; s.contract == contract && !s.paid {
			sum += b.Amount
		}
	}
	return sum
}

func (m *netModel) handle(kind, i int) {
	x := m.flying[i]
	if kind == api.DoDouble {
		if len(m.flying) < mostFlight {
			m.flying = append(m.flying, x)
		}
		return
	}
	m.flying = append(slices.Clone(m.flying[:i]), m.flying[i+1:]...)
	if kind == api.DoDrop {
		return
	}
	other := []int{toVehicle, toStation, backStation, toOperator, backOperator, toPayer}[x.Line]
	if n, arrived := m.lines[other].receive(x.Packet); arrived {
		m.act(x.Line, n)
	}
}

// end ends the session of the station.
func (m *netModel) end() {
	m.tell(toOperator, api.NoteFinal, m.session, m.since[0], m.since[1], m.time)
	m.station = api.ChargeClosing
	m.keep()
}

// keep keeps what was told as a record.
func (m *netModel) keep() {
	x := m.flowed[m.session]
	x.at = m.time
	m.records[m.session] = append(m.records[m.session], x)
	m.flowed[m.session] = record{}
}

func (m *netModel) tick(p int64) {
	m.flow = 0
	free := m.missing < m.d.Slack
	if m.plugged && m.vehicle == api.ChargeFlowing && m.station == api.ChargeFlowing && m.mine == m.session && free {
		if m.time < m.newest.Until {
			m.flow = max(-m.newest.Back, min(p, m.newest.Draw))
		}
		m.count(m.flow)
	}
	if m.station == api.ChargeFlowing && free {
		m.ticks++
		if m.ticks == m.d.Every {
			m.tell(toOperator, api.NoteRecord, m.session, m.since[0], m.since[1], m.time)
			m.ticks, m.since = 0, pair{}
			m.missing++
			m.keep()
		}
	}
	m.time++
	for i := range m.lines {
		if p, has := m.lines[i].poll(); has {
			m.flying = append(m.flying, api.Sent{Line: i, Packet: p})
		}
	}
	for len(m.flying) > mostFlight {
		m.flying = m.flying[1:]
	}
}

// count counts a power that has flowed for a tick.
func (m *netModel) count(p int64) {
	way := 0
	if p < 0 {
		way, p = 1, -p
	}
	c, x := m.counts[m.mine], m.flowed[m.session]
	c[way] += p
	x.energy[way] += p
	if p > 0 {
		x.ticks++
	}
	m.since[way] += p
	m.counts[m.mine], m.flowed[m.session] = c, x
}

// settle is Settle, for a number that is possible.
func (m *netModel) settle(most int) int {
	for i := range most {
		m.tick(0)
		for len(m.flying) > 0 {
			m.handle(api.DoDeliver, 0)
		}
		if !slices.ContainsFunc(m.lines[:], func(l lineModel) bool { return l.waiting() > 0 }) {
			return i + 1
		}
	}
	return most
}

// act does what a party does with a note that was told over a line.
func (m *netModel) act(line int, n api.Note) {
	switch line {
	case toStation, backStation:
		m.stationActs(line, n)
	case toVehicle:
		m.vehicleActs(n)
	case toOperator, backOperator:
		m.operatorActs(line, n)
	case toPayer:
		m.payerActs(n)
	}
}

func (m *netModel) stationActs(line int, n api.Note) {
	if line == toStation {
		if n.Kind == api.NotePlug {
			m.stationPlug(n)
		}
		return
	}
	asked := m.station == api.ChargeAsked && n.Session == m.session
	flowing := m.station == api.ChargeFlowing && n.Session == m.session
	switch {
	case n.Kind == api.NoteLease:
		if n.Session > m.newest.Number {
			m.newest = lease(n.Session, n.A, n.B, n.C)
		}
		m.tell(toOperator, api.NoteLeased, n.Session)
	case n.Kind == api.NoteRefuse && asked:
		m.station = api.ChargeIdle
		m.tell(toVehicle, api.NoteRefuse, n.Session, m.its[1], m.its[0])
	case n.Kind == api.NoteStart && asked && m.gone:
		m.end()
	case n.Kind == api.NoteStart && asked:
		m.station, m.ticks = api.ChargeFlowing, 0
		m.tell(toVehicle, api.NoteOffer, n.Session, m.its[1], m.its[0])
	case n.Kind == api.NoteAcked && flowing:
		m.missing = max(m.missing-1, 0)
	case n.Kind == api.NoteHalt && flowing:
		m.end()
	case n.Kind == api.NoteBill && m.station == api.ChargeClosing && n.Session == m.session:
		m.station = api.ChargeIdle
		m.bills[api.PartyStation][n.Session] = api.Bill{Session: n.Session, In: n.A, Back: n.B, Amount: n.C}
		m.tell(toVehicle, api.NoteBill, n.Session, n.A, n.B, n.C)
	}
}

func (m *netModel) stationPlug(n api.Note) {
	if m.station != api.ChargeIdle || !m.plugged {
		m.tell(toVehicle, api.NoteRefuse, 0, n.C, n.A)
		return
	}
	m.session++
	m.station, m.its, m.since, m.missing, m.gone = api.ChargeAsked, pair{n.A, n.C}, pair{}, 0, false
	m.tell(toOperator, api.NoteAuth, m.session, n.A, n.B, n.C)
}

func (m *netModel) vehicleActs(n api.Note) {
	ours := m.vehicle == api.ChargeAsked && m.last == pair{n.B, n.A}
	switch {
	case n.Kind == api.NoteBill:
		m.bills[api.PartyVehicle][n.Session] = api.Bill{Session: n.Session, In: n.A, Back: n.B, Amount: n.C}
	case n.Kind == api.NoteOffer && ours:
		m.vehicle, m.mine = api.ChargeFlowing, n.Session
	case n.Kind == api.NoteRefuse && ours:
		m.vehicle = api.ChargeEnded
	}
}

func (m *netModel) operatorActs(line int, n api.Note) {
	s := m.sessions[n.Session]
	switch {
	case line == backOperator && n.Kind == api.NoteApprove:
		m.tell(backStation, api.NoteStart, n.Session)
	case line == backOperator && n.Kind == api.NoteDeny:
		s.open = false
		m.sessions[n.Session] = s
		m.tell(backStation, api.NoteRefuse, n.Session)
	case line == backOperator:
	case n.Kind == api.NoteLeased:
		m.site.ack(0, n.Session)
	case n.Kind == api.NoteAuth:
		m.auth(n)
	case (n.Kind == api.NoteRecord || n.Kind == api.NoteFinal) && s.open:
		m.account(n)
	}
}

func (m *netModel) auth(n api.Note) {
	isRight := 0 <= n.A && n.A < int64(len(m.d.Contracts)) && 0 <= n.C && n.C < int64(len(m.d.Contracts[n.A].Pads)) && !m.used[pair{n.A, n.C}]
	if !isRight || n.B != int64(proofOf(m.d.Contracts[n.A], int(n.A), int(n.C))) {
		m.tell(backStation, api.NoteRefuse, n.Session)
		return
	}
	m.used[pair{n.A, n.C}] = true
	m.sessions[n.Session] = sessionModel{open: true, contract: n.A, bill: api.Bill{Session: n.Session, Amount: m.d.Tariff.Fee}}
	m.tell(toPayer, api.NoteAsk, n.Session, n.A)
}

// account adds a record.
func (m *netModel) account(n api.Note) {
	s := m.sessions[n.Session]
	s.bill.In += n.A
	s.bill.Back += n.B
	s.bill.Amount += costOf(m.d.Tariff, n.C, n.A, n.B)
	s.open = n.Kind == api.NoteRecord
	m.sessions[n.Session] = s
	l := m.records[n.Session]
	l[slices.IndexFunc(l, func(x record) bool { return !x.arrived })].arrived = true
	if s.open {
		m.tell(backStation, api.NoteAcked, n.Session)
		return
	}
	m.bills[api.PartyOperator][n.Session] = s.bill
	for _, line := range []int{backStation, toPayer} {
		m.tell(line, api.NoteBill, n.Session, s.bill.In, s.bill.Back, s.bill.Amount)
	}
}

func (m *netModel) payerActs(n api.Note) {
	s := m.sessions[n.Session]
	switch n.Kind {
	case api.NoteBill:
		m.bills[api.PartyPayer][n.Session] = api.Bill{Session: n.Session, In: n.A, Back: n.B, Amount: n.C}
	case api.NoteAsk:
		if m.owed(n.A) > m.d.Credit {
			m.tell(backOperator, api.NoteDeny, n.Session)
			return
		}
		s.approved = true
		m.sessions[n.Session] = s
		m.tell(backOperator, api.NoteApprove, n.Session)
	}
}

// reserved is what is reserved for the station now.
func (m *netModel) reserved() two { return m.site.reserved(0, m.time) }

// twoNets are a net and its model, to which the same is done.
type twoNets struct {
	t *testing.T
	n *charge.Net
	m *netModel
}

func newNets(t *testing.T, changes ...change[api.Deal]) twoNets {
	t.Helper()
	d := deal(changes...)
	return twoNets{t, newNet(t, d), newNetModel(d)}
}

// clone is a copy of both.
func (x twoNets) clone() twoNets { return twoNets{x.t, x.n.Copy(), x.m.clone()} }

// do lets something happen, which returns an error, or OK.
func (x twoNets) do(a api.Action, want api.Errno) {
	x.t.Helper()
	e := x.n.Do(a)
	if model := x.m.do(a); e != want || model != want {
		x.t.Fatalf("Do of %v: %d, and in the model %d, not %d", a, e, model, want)
	}
	x.check()
}

// try lets something happen, and returns what Do has returned.
func (x twoNets) try(a api.Action) api.Errno {
	x.t.Helper()
	e := x.n.Do(a)
	same(x.t, e, x.m.do(a), "Do", a)
	x.check()
	return e
}

// settle settles, and returns for how many ticks.
func (x twoNets) settle(most int) int {
	x.t.Helper()
	done, e := x.n.Settle(most)
	same(x.t, answer[int]{done, e}, good(x.m.settle(most)), "Settle", most)
	x.check()
	return done
}

// check checks all that a net tells.
func (x twoNets) check() {
	x.t.Helper()
	if x.t.Failed() {
		x.t.FailNow()
	}
	n, m := x.n, x.m
	same(x.t, n.Time(), m.time, "Time")
	for party, phase := range []int{m.vehicle, m.station, 0, 0, 0} {
		same(x.t, n.Phase(party), phase, "Phase", party)
	}
	same(x.t, n.Session(), m.session, "Session")
	same(x.t, n.Plugged(), m.plugged, "Plugged")
	same(x.t, n.Flowing(), m.flow, "Flowing")
	sameList(x.t, n.Flying(), m.flying, "Flying")
	for session := max(0, m.session-9); session <= m.session+1; session++ {
		in, back := n.Count(session)
		same(x.t, pair{in, back}, m.counts[session], "Count", session)
		for party := range 4 {
			want := bad[api.Bill](api.ErrNone)
			if b, has := m.bills[party][session]; has {
				want = good(b)
			}
			same(x.t, answerOf(n.Bill(party, session)), want, "Bill", party, session)
		}
	}
	for i := range m.d.Contracts {
		same(x.t, answerOf(n.Owed(i)), good(m.owed(int64(i))), "Owed", i)
	}
	same(x.t, m.lost, false, "whether a note was lost")
}
