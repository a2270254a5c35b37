package charge_test

import (
	"math/rand"
	"testing"

	"coulomb/api"
)

// mood is how often each kind of action is drawn, by kinds from 1 to 9, how often a net settles, and which of the packets is picked.
type mood struct {
	kinds  [10]int // the first one: to settle
	early  bool    // one of the first packets, otherwise any one
	wrong  int     // of how many actions one is wild
	bursts bool    // all packets are delivered, or dropped, at once
}

// moods are ways in which nets live.
func moods() []mood {
	return []mood{
		{kinds: [10]int{1, 4, 3, 40, 60, 3, 3, 1, 3, 2}, early: true, wrong: 30},       // most arrives in its order
		{kinds: [10]int{1, 4, 3, 40, 30, 20, 10, 2, 3, 2}, wrong: 30},                  // much is lost, and late
		{kinds: [10]int{0, 4, 2, 20, 80, 5, 30, 2, 4, 2}, wrong: 200},                  // much is doubled, and late
		{kinds: [10]int{0, 12, 12, 20, 40, 2, 2, 4, 3, 4}, early: true, wrong: 100},    // the plug is in and out
		{kinds: [10]int{2, 3, 1, 30, 10, 2, 2, 1, 2, 1}, bursts: true, wrong: 100},     // all at once
		{kinds: [10]int{0, 10, 10, 40, 30, 30, 5, 8, 20, 2}, bursts: true, wrong: 100}, // with many leases
		{kinds: [10]int{0, 2, 2, 90, 5, 1, 5, 1, 1, 1}, wrong: 100},                    // there are many packets under way
	}
}

// drawAction draws what happens next.
func drawAction(r *rand.Rand, x mood, m *netModel) api.Action {
	sum := 0
	for _, n := range x.kinds[1:] {
		sum += n
	}
	a := api.Action{}
	for i := r.Intn(sum); i >= 0; i -= x.kinds[a.Kind] {
		a.Kind++
	}
	switch a.Kind {
	case api.DoPlug:
		a.A, a.B = int64(r.Intn(len(m.d.Contracts))), pick[int64](r, 0, 0, 0, 0, 1)
	case api.DoTick:
		a.A = pick(r, drawInt(r, -m.d.Back, m.d.Draw), mostPower, -mostPower, 0)
	case api.DoDeliver, api.DoDrop, api.DoDouble:
		n := max(1, len(m.flying))
		a.A = int64(r.Intn(n))
		if x.early {
			a.A = int64(r.Intn(min(n, pick(r, 1, 1, 1, 3))))
		}
	case api.DoLease:
		a.A, a.B, a.C = pick(r, m.d.Draw, drawInt(r, 0, m.d.Draw)), pick(r, m.d.Back, drawInt(r, 0, m.d.Back)), drawInt(r, 1, 40)
	case api.DoPay:
		a.A = int64(r.Intn(len(m.d.Contracts)))
	}
	if r.Intn(x.wrong) == 0 {
		wild := append(wildNumbers(), 0, 1, 2, mostPower+1, longest+1)
		*pick(r, &a.A, &a.B, &a.C) = pick(r, wild...)
		a.Kind = drawAny(r, a.Kind, int(pick(r, wild...)), 10)
	}
	return a
}

// drawDeal draws a deal.
func drawDeal(r *rand.Rand) api.Deal {
	d := deal(every(1+r.Intn(4)), slack(1+r.Intn(3)), credit(drawInt(r, 0, 60)), limits(drawInt(r, 0, 200000), drawInt(r, 0, 200000)))
	if r.Intn(6) == 0 {
		d.Draw, d.Back, d.Credit = mostPower, mostPower, quantities
	}
	if r.Intn(6) == 0 {
		d.Slack, d.Every = mostSlack, 1
	}
	d.Contracts = nil
	for i := range 1 + r.Intn(3) {
		d.Contracts = append(d.Contracts, contract(drawFrom64(r), pick(r, 1, 5, 40, 300)))
		if r.Intn(5) == 0 {
			d.Contracts[i] = last(i)
		}
	}
	d.Tariff = api.Tariff{Day: 50, Bands: []api.Band{{In: drawInt(r, 0, 9000), Back: drawInt(r, 0, 9000)}, {From: 20, In: drawInt(r, 0, 90)}}, Fee: drawInt(r, 0, 20)}
	return d
}

// drawFrom64 draws a point.
func drawFrom64(r *rand.Rand) uint64 { return uint64(drawFrom(r, 1, prime-1)) }

// live lets something happen.
func (x twoNets) live(r *rand.Rand, how mood) {
	x.t.Helper()
	if how.bursts && r.Intn(4) == 0 {
		kind := pick(r, api.DoDeliver, api.DoDeliver, api.DoDrop)
		for len(x.m.flying) > 0 {
			x.try(api.Action{Kind: kind})
		}
	}
	if r.Intn(100) < how.kinds[0] {
		x.settle(r.Intn(8))
		return
	}
	x.try(drawAction(r, how, x.m))
}

// P9.6 to P9.10, P9.17: nets to which anything happens.
func TestDrawnNets(t *testing.T) {
	r := chance(7)
	all := moods()
	for run := range 210 {
		d := drawDeal(r)
		x := twoNets{t, newNet(t, d), newNetModel(d)}
		how := all[run%len(all)]
		for range 400 {
			x.live(r, how)
		}
	}
}

// P9.6 to P9.10: nets whose mood changes, and copies of them.
func TestDrawnCopies(t *testing.T) {
	r := chance(8)
	all := moods()
	for range 60 {
		d := drawDeal(r)
		x := twoNets{t, newNet(t, d), newNetModel(d)}
		for range 12 {
			how := pick(r, all...)
			for range r.Intn(60) {
				x.live(r, how)
			}
			c := x.clone()
			c.check()
			if r.Intn(2) == 0 {
				c, x = x, c
			}
			for range r.Intn(40) {
				c.live(r, how)
			}
			x.check()
		}
	}
}

// P9.6 to P9.10: everything that can happen in a few steps, from different beginnings.
func TestAllShortPlays(t *testing.T) {
	small := func(d *api.Deal) { d.Every, d.Slack, d.Credit, d.Contracts = 1, 1, 9, []api.Contract{contract(5, 3)} }
	begins := []func(x twoNets){
		func(twoNets) {},
		func(x twoNets) { x.lease(50, 50, 100); x.plug(0); x.settle(9) },
		func(x twoNets) { x.plug(0); x.settle(2) },
		func(x twoNets) {
			x.lease(50, 50, 100)
			x.plug(0)
			x.settle(9)
			x.tick(70)
			x.unplug()
			x.deliverAll()
		},
		func(x twoNets) { x.plug(0); x.unplug(); x.tick(0); x.plug(0) },
	}
	actions := []api.Action{{Kind: api.DoPlug}, {Kind: api.DoPlug, B: 1}, {Kind: api.DoUnplug}, {Kind: api.DoTick, A: 70}, {Kind: api.DoDeliver}, {Kind: api.DoDeliver, A: 1}, {Kind: api.DoDrop}, {Kind: api.DoDouble}, {Kind: api.DoHalt}, {Kind: api.DoPay}}
	var follow func(x twoNets, steps int)
	follow = func(x twoNets, steps int) {
		for _, a := range actions {
			c := x.clone()
			if c.try(a) == api.OK && steps > 1 {
				follow(c, steps-1)
			}
		}
	}
	for _, begin := range begins {
		x := newNets(t, small)
		begin(x)
		follow(x, 5)
	}
}
