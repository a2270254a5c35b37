package charge_test

import (
	"math/rand"
	"reflect"
	"slices"
	"testing"

	"coulomb/api"
	"coulomb/charge"
)

// R4, P9.3: lines that NewLine has not made.
func TestLinesThatAreNotValid(t *testing.T) {
	for _, l := range []*charge.Line{nil, {}, new(charge.Line)} {
		for i := range 3 {
			same(t, l.Send(note(i)), api.ErrNil, "Send")
			same(t, pollOf(l.Poll()), poll{}, "Poll")
			same(t, gotOf(l.Receive(api.Packet{Has: true, Number: 1, Note: note(1), Ack: 1})), got{}, "Receive")
			same(t, pollOf(l.Poll()), poll{}, "Poll")
			same(t, l.Waiting(), 0, "Waiting")
			same(t, l.Copy(), nil, "Copy")
		}
	}
}

// R4, P9.4: posts that NewPost has not made.
func TestPostsThatAreNotValid(t *testing.T) {
	for _, p := range []*charge.Post{nil, {}, new(charge.Post)} {
		for range 2 {
			same(t, p.Take(lease(1, 5, 6, 100)), false, "Take")
			same(t, most(p, 5), two{}, "Most")
			same(t, p.Number(), 0, "Number")
			same(t, p.Copy(), nil, "Copy")
		}
	}
}

// R4, P9.5: sites that NewSite has not made; ErrNil is before all others.
func TestSitesThatAreNotValid(t *testing.T) {
	for _, s := range []*charge.Site{nil, {}, new(charge.Site)} {
		for range 2 {
			for _, i := range append(wildIndexes(0), 0) {
				same(t, answerOf(s.Grant(i, 0, 0, 5, 0)), bad[api.Lease](api.ErrNil), "Grant", i)
				same(t, answerOf(s.Grant(i, -1, -1, -5, -1)), bad[api.Lease](api.ErrNil), "Grant", i)
				same(t, s.Ack(i, 1), api.ErrNil, "Ack", i)
				same(t, twoOf(s.Reserved(i, 0)), two{e: api.ErrNil}, "Reserved", i)
			}
			same(t, s.Copy(), nil, "Copy")
		}
	}
}

// R4, P9.6 to P9.10: nets that NewNet has not made; ErrNil is before all others.
func TestNetsThatAreNotValid(t *testing.T) {
	for _, n := range []*charge.Net{nil, {}, new(charge.Net)} {
		for kind := -1; kind <= 10; kind++ {
			same(t, n.Do(api.Action{Kind: kind}), api.ErrNil, "Do", kind)
			same(t, n.Do(api.Action{Kind: kind, A: -1, B: -1, C: -1}), api.ErrNil, "Do", kind)
			same(t, answerOf(n.Bill(kind, 0)), bad[api.Bill](api.ErrNil), "Bill", kind)
			same(t, answerOf(n.Owed(kind)), bad[int64](api.ErrNil), "Owed", kind)
			same(t, answerOf(n.Settle(kind)), bad[int](api.ErrNil), "Settle", kind)
			same(t, n.Phase(kind), 0, "Phase", kind)
			a, b := n.Count(kind)
			same(t, pair{a, b}, pair{}, "Count", kind)
		}
		same(t, answerOf(n.Settle(mostRounds+1)), bad[int](api.ErrNil), "Settle")
		same(t, n.Time(), 0, "Time")
		same(t, n.Session(), 0, "Session")
		same(t, n.Plugged(), false, "Plugged")
		same(t, n.Flowing(), 0, "Flowing")
		sameList(t, n.Flying(), nil, "Flying")
		same(t, n.Copy(), nil, "Copy")
	}
}

// roomy is a list behind whose end there is room.
func roomy[T any](l []T) []T { return append(make([]T, 0, len(l)+5), l...) }

// spoil changes all elements of a list, and what lies behind its end.
func spoil[T any](l []T, wrong T) {
	for i := range l[:cap(l)] {
		l[:cap(l)][i] = wrong
	}
}

// roomyDeal is a deal behind whose lists there is room.
func roomyDeal() api.Deal {
	d := deal(contracts(5, 6))
	d.Tariff.Bands, d.Contracts = roomy(d.Tariff.Bands), roomy(d.Contracts)
	for i, c := range d.Contracts {
		d.Contracts[i].Pads = roomy(c.Pads)
	}
	return d
}

// R5: a net keeps no reference to its deal.
func TestDealsAreNotKept(t *testing.T) {
	d, other := roomyDeal(), roomyDeal()
	x := twoNets{t, newNet(t, d), newNetModel(other)}
	spoilDeal(d)
	x.lease(100, 100, 500)
	for i := range 3 {
		x.plug(int64(i % 2))
		x.settle(50)
		x.phases(api.ChargeFlowing, api.ChargeFlowing)
		x.flows(80, 80)
		c := x.clone()
		x.unplug()
		x.settle(50)
		c.check()
	}
}

// spoilDeal changes all lists of a deal.
func spoilDeal(d api.Deal) {
	for _, c := range d.Contracts {
		spoil(c.Pads, 77)
	}
	spoil(d.Contracts, api.Contract{Point: 1})
	spoil(d.Tariff.Bands, api.Band{From: 7, In: 5})
}

// R5: no argument is changed.
func TestArgumentsAreNotChanged(t *testing.T) {
	d, want := roomyDeal(), roomyDeal()
	charge.CheckTariff(d.Tariff)
	charge.Price(d.Tariff, 70)
	charge.Cost(d.Tariff, 70, 5, 6)
	charge.CheckDeal(d)
	charge.Proof(d.Contracts[1], 1, 2)
	n := newNet(t, d)
	n.Do(api.Action{Kind: api.DoPlug, A: 1})
	n.Settle(50)
	n.Do(api.Action{Kind: api.DoUnplug})
	n.Settle(50)
	if !reflect.DeepEqual(d, want) {
		t.Errorf("the deal is changed: %v", d)
	}
	for i, c := range d.Contracts {
		if !slices.Equal(c.Pads[:cap(c.Pads)], want.Contracts[i].Pads[:cap(c.Pads)]) {
			t.Errorf("something behind the pads is changed: %v", c.Pads[:cap(c.Pads)])
		}
	}
	if !slices.Equal(d.Tariff.Bands[:cap(d.Tariff.Bands)], want.Tariff.Bands[:cap(d.Tariff.Bands)]) {
		t.Errorf("something behind the bands is changed: %v", d.Tariff.Bands[:cap(d.Tariff.Bands)])
	}
}

// R5: what Flying returns shares no memory with the net, a copy, or another result.
func TestFlyingSharesNothing(t *testing.T) {
	x := flowing(t)
	x.tick(5, 6, 7)
	first, again := x.n.Flying(), x.n.Flying()
	want := slices.Clone(again)
	c := x.clone()
	spoil(first, api.Sent{Line: 9})
	sameList(t, again, want, "Flying, behind a change of what it has returned before")
	x.check()
	c.check()
	x.tick(5)
	spoil(c.n.Flying(), api.Sent{})
	sameList(t, again, want, "Flying, behind a tick")
	x.do(api.Action{Kind: api.DoDrop}, api.OK)
	sameList(t, again, want, "Flying, behind a drop")
	c.check()
	c.deliverAll()
	x.check()
}

// R3: nil and empty lists are the same.
func TestNilAndEmpty(t *testing.T) {
	for _, l := range [][]uint64{nil, {}} {
		c := api.Contract{Point: 5, Pads: l}
		same(t, answerOf(charge.Proof(c, 0, 0)), bad[uint64](api.ErrOver), "Proof without pads")
		d := deal(func(d *api.Deal) { d.Contracts = []api.Contract{c} })
		same(t, charge.CheckDeal(d), api.OK, "CheckDeal without pads")
		same(t, newNet(t, d).Do(api.Action{Kind: api.DoPlug}), api.ErrOver, "DoPlug without pads")
	}
	same(t, charge.CheckDeal(deal(func(d *api.Deal) { d.Contracts = nil })), api.ErrArg, "CheckDeal with nil")
	same(t, charge.CheckDeal(deal(func(d *api.Deal) { d.Contracts = []api.Contract{} })), api.ErrArg, "CheckDeal without contracts")
	same(t, charge.CheckTariff(tariff(bands([]api.Band{}...))), api.ErrArg, "CheckTariff without bands")
}

// wild are arguments of all kinds, possible ones and others.
type wild struct {
	d       api.Deal
	c       api.Contract
	a       api.Action
	n       api.Note
	p       api.Packet
	l       api.Lease
	numbers [5]int64
	ints    [3]int
}

// drawWild draws arguments.
func drawWild(r *rand.Rand) wild {
	number := func(good int64) int64 { return drawAny(r, good, append(wildNumbers(), 0, 1, 2)...) }
	w := wild{d: drawDeal(r), n: drawNote(r), ints: [3]int{int(number(drawInt(r, 0, 3))), int(number(drawInt(r, 0, 3))), int(number(drawInt(r, 0, 3)))}}
	w.d.Tariff = drawAny(r, w.d.Tariff, wildTariffs()...)
	w.d.Every, w.d.Slack, w.d.Credit, w.d.Draw, w.d.Back = int(number(3)), int(number(3)), number(100), number(100), number(50)
	w.c = drawAny(r, w.d.Contracts[0], wildContracts()...)
	if r.Intn(4) == 0 {
		w.d.Contracts = append(w.d.Contracts, w.c)
	}
	w.a = api.Action{Kind: int(number(drawInt(r, 0, 10))), A: number(drawInt(r, 0, 3)), B: number(drawInt(r, 0, 1)), C: number(drawInt(r, 1, 9))}
	w.p = api.Packet{Has: r.Intn(3) > 0, Number: int(number(drawInt(r, 0, 3))), Note: w.n, Ack: int(number(drawInt(r, 0, 3)))}
	w.l = lease(int(number(drawInt(r, 0, 9))), number(5), number(6), number(7))
	w.numbers = [5]int64{number(5), number(drawInt(r, 0, 60)), number(drawInt(r, 0, 60)), number(drawInt(r, 5, 20)), number(drawInt(r, 0, 9))}
	return w
}

// objects are objects of all kinds.
type objects struct {
	l *charge.Line
	p *charge.Post
	s *charge.Site
	n *charge.Net
}

// clone are copies of all of them.
func (o objects) clone() objects { return objects{o.l.Copy(), o.p.Copy(), o.s.Copy(), o.n.Copy()} }

// outcome is what one call has returned: its error, and its other results.
type outcome struct {
	name  string
	errno api.Errno
	rest  []any
}

// returned is the outcome of a call.
func returned(name string, e api.Errno, rest ...any) outcome { return outcome{name, e, rest} }

// readAll calls all functions that change nothing.
func readAll(w wild, o objects) []outcome {
	in, back, e1 := charge.Price(w.d.Tariff, w.numbers[0])
	cost, e2 := charge.Cost(w.d.Tariff, w.numbers[0], w.numbers[1], w.numbers[2])
	proof, e3 := charge.Proof(w.c, w.ints[0], w.ints[1])
	site, e4 := charge.NewSite(w.ints[0], w.numbers[1], w.numbers[2])
	net, e5 := charge.NewNet(w.d)
	draw, give := o.p.Most(w.numbers[0])
	l := []outcome{
		returned("CheckTariff", charge.CheckTariff(w.d.Tariff)), returned("Price", e1, in, back), returned("Cost", e2, cost), returned("CheckDeal", charge.CheckDeal(w.d)), returned("Proof", e3, proof),
		returned("NewSite", e4, site != nil), returned("NewNet", e5, net != nil), returned("Waiting", api.OK, o.l.Waiting()), returned("Most", api.OK, draw, give, o.p.Number()),
	}
	draw, give, e1 = o.s.Reserved(w.ints[0], w.numbers[0])
	bill, e2 := o.n.Bill(w.ints[0], w.ints[1])
	owed, e3 := o.n.Owed(w.ints[0])
	in, back = o.n.Count(w.ints[0])
	return append(l, returned("Reserved", e1, draw, give), returned("Bill", e2, bill), returned("Owed", e3, owed), returned("Count", api.OK, in, back), returned("Phase", api.OK, o.n.Phase(w.ints[0])), returned("others", api.OK, o.n.Time(), o.n.Session(), o.n.Plugged(), o.n.Flowing(), o.n.Flying()))
}

// changeAll calls all functions that may change an object.
func changeAll(w wild, o objects) []outcome {
	l := []outcome{returned("Send", o.l.Send(w.n))}
	n, arrived := o.l.Receive(w.p)
	p, has := o.l.Poll()
	granted, e := o.s.Grant(w.ints[0], w.numbers[1], w.numbers[2], w.numbers[3], w.numbers[4])
	l = append(l, returned("Receive", api.OK, n, arrived), returned("Poll", api.OK, p, has), returned("Take", api.OK, o.p.Take(w.l)), returned("Grant", e, granted), returned("Ack", o.s.Ack(w.ints[0], w.ints[1])), returned("Do", o.n.Do(w.a)))
	done, e := o.n.Settle(min(w.ints[2], mostRounds+5))
	return append(l, returned("Settle", e, done))
}

// P1, R2, R6, R7, R10: no arguments make a function panic; with an error all other results are zero, and nothing has changed; a call again returns the same.
func TestAnyArguments(t *testing.T) {
	r := chance(11)
	x := flowing(t, contracts(50, 50))
	x.tick(5, 6)
	o := objects{charge.NewLine(), charge.NewPost(), newSite(t, 3, 100, 100), x.n}
	for range 3000 {
		w := drawWild(r)
		before := readAll(w, o)
		c := o.clone()
		first := append(changeAll(w, o), readAll(w, o)...)
		again := append(changeAll(w, c), readAll(w, c)...)
		for i, y := range first {
			if !reflect.DeepEqual(y, again[i]) {
				t.Errorf("%s does not return the same again: %v, %v", y.name, y, again[i])
			}
			if y.errno != api.OK && slices.ContainsFunc(y.rest, func(rest any) bool { return !reflect.ValueOf(rest).IsZero() }) {
				t.Errorf("%s returns %v with the error %d", y.name, y.rest, y.errno)
			}
		}
		if behind := first[len(first)-len(before):]; failed(first, "Do") && failed(first, "Settle") && !reflect.DeepEqual(before[10:], behind[10:]) {
			t.Errorf("with an error the net has changed: %v, %v", before, behind)
		}
	}
}

// failed reports whether a function has returned an error.
func failed(l []outcome, name string) bool {
	return slices.ContainsFunc(l, func(x outcome) bool { return x.name == name && x.errno != api.OK })
}
