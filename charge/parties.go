package charge

import (
	"maps"
	"slices"

	"coulomb/api"
)

// party is who can have the bill of a session.
type party interface {
	bill(session int) (api.Bill, bool)
}

// bills are those that a party has, by their sessions.
type bills map[int]api.Bill

// bill returns the bill of a session, if there is one.
func (b bills) bill(session int) (api.Bill, bool) {
	x, has := b[session]
	return x, has
}

// put adds a bill.
func (b bills) put(x api.Bill) { b[x.Session] = x }

// vehicle is what a vehicle knows.
type vehicle struct {
	phase   int
	last    plug
	plugs   []int // how many plugs there were with each contract
	session int   // the one for which it counts
	counts  map[int]energy
	bills
}

// station is what a station knows.
type station struct {
	phase   int
	session int // the last one
	plug    plug
	gone    bool // the plug was taken out before the session was allowed
	ticks   int  // since the last record
	open    int  // records without an answer
	since   energy
	post    *Post
	bills
}

// account is a session that is open at the operator.
type account struct {
	session int
	total   energy
	amount  int64
}

// operator is what an operator knows.
type operator struct {
	site *Site
	used map[plug]bool // the pads that were used
	open []account     // in the order in which they were opened
	bills
}

// payer is what a payer knows.
type payer struct {
	contracts map[int]int // those of the sessions that have no bill yet
	owed      []int64     // by contracts
	bills
}

// newVehicle returns a vehicle with contracts.
func newVehicle(contracts int) vehicle {
	return vehicle{plugs: make([]int, contracts), counts: map[int]energy{}, bills: bills{}}
}

// newStation returns a station.
func newStation() station { return station{post: NewPost(), bills: bills{}} }

// newOperator returns an operator with a site.
func newOperator(s *Site) operator {
	return operator{site: s, used: map[plug]bool{}, bills: bills{}}
}

// newPayer returns a payer of contracts.
func newPayer(contracts int) payer {
	return payer{contracts: map[int]int{}, owed: make([]int64, contracts), bills: bills{}}
}

// clone returns a vehicle that shares no memory with this one.
func (v vehicle) clone() vehicle {
	v.plugs, v.counts, v.bills = slices.Clone(v.plugs), maps.Clone(v.counts), maps.Clone(v.bills)
	return v
}

// clone returns a station that shares no memory with this one.
func (s station) clone() station {
	s.post, s.bills = s.post.Copy(), maps.Clone(s.bills)
	return s
}

// clone returns an operator that shares no memory with this one.
func (o operator) clone() operator {
	o.site, o.used, o.open, o.bills = o.site.Copy(), maps.Clone(o.used), slices.Clone(o.open), maps.Clone(o.bills)
	return o
}

// clone returns a payer that shares no memory with this one.
func (p payer) clone() payer {
	p.contracts, p.owed, p.bills = maps.Clone(p.contracts), slices.Clone(p.owed), maps.Clone(p.bills)
	return p
}

// waitsFor reports whether a vehicle waits for an answer that is about its last plug.
func (v *vehicle) waitsFor(n api.Note) bool {
	return v.phase == api.ChargeAsked && n.A == int64(v.last.number) && n.B == int64(v.last.contract)
}

// count counts a power that has flowed for a tick.
func (v *vehicle) count(power int64) { v.counts[v.session] = v.counts[v.session].with(power) }

// isIn reports whether a station is in a phase of a session.
func (s *station) isIn(phase, session int) bool { return s.phase == phase && s.session == session }

// begin begins the next session.
func (s *station) begin(p plug) {
	s.session++
	s.phase, s.plug, s.gone, s.ticks, s.open, s.since = api.ChargeAsked, p, false, 0, 0, energy{}
}

// find returns where a session is among those that are open; -1 if it is not.
func (o *operator) find(session int) int {
	return slices.IndexFunc(o.open, func(a account) bool { return a.session == session })
}

// close closes a session that is open.
func (o *operator) close(i int) { o.open = slices.Delete(o.open, i, i+1) }

// add adds what a record tells, and its cost.
func (a *account) add(e energy, cost int64) {
	a.total = energy{a.total.in + e.in, a.total.back + e.back}
	a.amount += cost
}

// bill returns the bill that an account makes.
func (a account) bill() api.Bill {
	return api.Bill{Session: a.session, In: a.total.in, Back: a.total.back, Amount: a.amount}
}
