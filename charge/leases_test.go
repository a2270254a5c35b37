package charge_test

import (
	"math"
	"math/rand"
	"slices"
	"testing"

	"coulomb/api"
	"coulomb/charge"
)

// lease is a lease.
func lease(number int, draw, back, until int64) api.Lease {
	return api.Lease{Number: number, Draw: draw, Back: back, Until: until}
}

// siteModel is a site as the chapter describes it: all leases that it has ever granted.
type siteModel struct {
	draw, back int64
	time       int64
	granted    [][]api.Lease // by stations; the number of a lease is greater by 1 than its index
	acked      []int
}

func newSiteModel(stations int, draw, back int64) *siteModel {
	return &siteModel{draw: draw, back: back, granted: make([][]api.Lease, stations), acked: make([]int, stations)}
}

// notOver are the leases of a station that are not over at a time.
func (m *siteModel) notOver(station int, at int64) []api.Lease {
	var l []api.Lease
	for _, x := range m.granted[station] {
		if x.Number >= m.acked[station] && x.Until > at {
			l = append(l, x)
		}
	}
	return l
}

// greatest are the greatest powers of leases.
func greatest(l ...api.Lease) (draw, back int64) {
	for _, x := range l {
		draw, back = max(draw, x.Draw), max(back, x.Back)
	}
	return draw, back
}

// has reports whether there is a station.
func (m *siteModel) has(station int) bool { return 0 <= station && station < len(m.granted) }

// grant is Grant.
func (m *siteModel) grant(station int, draw, back, until, now int64) (api.Lease, api.Errno) {
	switch {
	case !m.has(station):
		return api.Lease{}, api.ErrRange
	case draw < 0 || draw > mostPower || back < 0 || back > mostPower || now < 0 || now > mostTime || until < now+1 || until > now+longest:
		return api.Lease{}, api.ErrArg
	case now < m.time:
		return api.Lease{}, api.ErrOld
	case len(m.notOver(station, now)) >= mostLeases:
		return api.Lease{}, api.ErrFull
	}
	l := lease(len(m.granted[station])+1, draw, back, until)
	var sumDraw, sumBack int64
	for i := range m.granted {
		all := m.notOver(i, now)
		if i == station {
			all = append(all, l)
		}
		draw, back := greatest(all...)
		sumDraw, sumBack = sumDraw+draw, sumBack+back
	}
	if sumDraw > m.draw || sumBack > m.back {
		return api.Lease{}, api.ErrLimit
	}
	m.time = now
	m.granted[station] = append(m.granted[station], l)
	return l, api.OK
}

// ack is Ack.
func (m *siteModel) ack(station, number int) api.Errno {
	if !m.has(station) {
		return api.ErrRange
	}
	if number < 1 || number > len(m.granted[station]) {
		return api.ErrNone
	}
	m.acked[station] = max(m.acked[station], number)
	return api.OK
}

// reserved is Reserved.
func (m *siteModel) reserved(station int, at int64) two {
	if !m.has(station) {
		return two{e: api.ErrRange}
	}
	draw, back := greatest(m.notOver(station, at)...)
	return two{draw, back, api.OK}
}

// clone is a copy of the model.
func (m *siteModel) clone() *siteModel {
	c := *m
	c.granted, c.acked = slices.Clone(m.granted), slices.Clone(m.acked)
	for i, l := range c.granted {
		c.granted[i] = slices.Clone(l)
	}
	return &c
}

// twoSites are a site and its model, to which the same is done.
type twoSites struct {
	t *testing.T
	s *charge.Site
	m *siteModel
}

func newSites(t *testing.T, stations int, draw, back int64) twoSites {
	t.Helper()
	return twoSites{t, newSite(t, stations, draw, back), newSiteModel(stations, draw, back)}
}

func (x twoSites) grant(station int, draw, back, until, now int64) answer[api.Lease] {
	x.t.Helper()
	l := answerOf(x.s.Grant(station, draw, back, until, now))
	same(x.t, l, answerOf(x.m.grant(station, draw, back, until, now)), "Grant", station, draw, back, until, now)
	return l
}

func (x twoSites) ack(station, number int) api.Errno {
	x.t.Helper()
	e := x.s.Ack(station, number)
	same(x.t, e, x.m.ack(station, number), "Ack", station, number)
	return e
}

// check checks what is reserved for all stations at some times.
func (x twoSites) check(times ...int64) {
	x.t.Helper()
	for station := range x.m.granted {
		for _, at := range append(times, x.m.time-1, x.m.time, x.m.time+1) {
			same(x.t, twoOf(x.s.Reserved(station, at)), x.m.reserved(station, at), "Reserved", station, at)
		}
	}
}

// most is what Most returns.
func most(p *charge.Post, at int64) two {
	draw, back := p.Most(at)
	return two{draw, back, api.OK}
}

// P9.4: what a post takes, and what it may use.
func TestPosts(t *testing.T) {
	p := charge.NewPost()
	for _, at := range []int64{0, -1, 1, math.MinInt64, math.MaxInt64} {
		same(t, most(p, at), two{}, "Most of a new post", at)
	}
	same(t, p.Number(), 0, "Number of a new post")
	for _, n := range []int{0, -1, math.MinInt} {
		same(t, p.Take(lease(n, 5, 6, 100)), false, "Take", n)
		same(t, most(p, 0), two{}, "Most", n)
	}
	for _, x := range []struct {
		l     api.Lease
		takes bool
	}{{lease(1, 5, 6, 100), true}, {lease(1, 7, 8, 200), false}, {lease(3, 9, 0, 50), true}, {lease(2, 5, 6, 100), false}, {lease(3, 1, 1, 1000), false}, {lease(4, 0, 0, 1000), true}, {lease(0, 7, 7, 7000), false}, {lease(5, mostPower, mostPower, mostTime), true}, {lease(math.MaxInt-1, -5, mostTime, -3), true}, {lease(math.MaxInt, 1, 2, math.MaxInt64), true}, {lease(math.MaxInt, 3, 4, math.MaxInt64), false}} {
		number, draw := p.Number(), most(p, 7)
		same(t, p.Take(x.l), x.takes, "Take", x.l)
		if !x.takes {
			same(t, p.Number(), number, "Number behind a lease that is not taken", x.l)
			same(t, most(p, 7), draw, "Most behind a lease that is not taken", x.l)
			continue
		}
		same(t, p.Number(), x.l.Number, "Number", x.l)
		for _, at := range []int64{x.l.Until - 1, x.l.Until, x.l.Until + 1, 0, math.MinInt64, math.MaxInt64} {
			want := two{}
			if at < x.l.Until {
				want = two{x.l.Draw, x.l.Back, api.OK}
			}
			same(t, most(p, at), want, "Most", x.l, at)
		}
	}
}

// P9.4: a copy of a post.
func TestCopiesOfPosts(t *testing.T) {
	p := charge.NewPost()
	p.Take(lease(2, 5, 6, 100))
	c := p.Copy()
	same(t, c.Number(), 2, "Number of a copy")
	same(t, most(c, 99), two{a: 5, b: 6}, "Most of a copy")
	same(t, c.Take(lease(3, 7, 8, 200)), true, "Take of a copy")
	same(t, most(p, 99), two{a: 5, b: 6}, "Most behind a Take of its copy")
	same(t, p.Take(lease(4, 1, 1, 300)), true, "Take")
	same(t, most(c, 150), two{a: 7, b: 8}, "Most of a copy")
	same(t, c.Number(), 3, "Number of a copy")
}

// P9.5: the chapter's example.
func TestExampleOfSites(t *testing.T) {
	x := newSites(t, 2, 100, 0)
	same(t, x.grant(0, 60, 0, 10, 0), good(lease(1, 60, 0, 10)), "Grant")
	same(t, x.grant(1, 50, 0, 10, 0), bad[api.Lease](api.ErrLimit), "Grant")
	same(t, x.grant(1, 40, 0, 10, 0), good(lease(1, 40, 0, 10)), "Grant")
	same(t, x.grant(0, 20, 0, 20, 1), good(lease(2, 20, 0, 20)), "Grant")
	same(t, x.grant(1, 80, 0, 20, 1), bad[api.Lease](api.ErrLimit), "Grant")
	same(t, twoOf(x.s.Reserved(0, 1)), two{a: 60}, "Reserved before Ack")
	same(t, x.ack(0, 2), api.OK, "Ack")
	same(t, x.grant(1, 80, 0, 20, 1), good(lease(2, 80, 0, 20)), "Grant")
	same(t, twoOf(x.s.Reserved(0, 1)), two{a: 20}, "Reserved")
	same(t, x.grant(1, 81, 0, 30, 10), bad[api.Lease](api.ErrLimit), "Grant")
	same(t, x.grant(1, 80, 0, 30, 9), good(lease(3, 80, 0, 30)), "Grant")
	x.check(0, 8, 19, 20, 29, 30)
}

// P9.5: which sites there are.
func TestNewSite(t *testing.T) {
	for _, stations := range []int{1, 2, 31, mostStations} {
		for _, power := range []int64{0, 1, mostPower} {
			x := newSites(t, stations, power, mostPower-power)
			x.check(0, 5, -5)
			for i := range stations {
				same(t, x.grant(i, 0, 0, 5, 3).x.Number, 1, "the first lease of the station", i)
			}
			same(t, x.grant(stations, 0, 0, 5, 3).e, api.ErrRange, "Grant to no station")
			same(t, x.grant(stations-1, power, mostPower-power, 5, 3).e, api.OK, "Grant of all")
			same(t, x.grant(stations-1, power+1, 0, 5, 3).e != api.OK, true, "Grant of too much")
		}
	}
	for _, stations := range append(wildIndexes(mostStations+1), 0, 33, 64) {
		for _, power := range []int64{0, 5, -1, mostPower + 1} {
			s, e := charge.NewSite(stations, power, power)
			same(t, answerOf(s != nil, e), bad[bool](api.ErrRange), "NewSite", stations, power)
		}
	}
	for _, power := range append(wildNumbers(), mostPower+1, 1<<31) {
		for _, x := range [][2]int64{{power, 5}, {5, power}, {power, power}} {
			s, e := charge.NewSite(5, x[0], x[1])
			same(t, answerOf(s != nil, e), bad[bool](api.ErrArg), "NewSite", x)
		}
	}
}

// P9.5: the errors of Grant, in their order; with them nothing changes.
func TestErrorsOfGrant(t *testing.T) {
	x := newSites(t, 2, 100, 50)
	x.grant(0, 60, 20, 1000, 10)
	wild := append(wildNumbers(), mostPower+1)
	for _, station := range wildIndexes(2) {
		same(t, x.grant(station, 1, 1, 20, 10).e, api.ErrRange, "Grant", station)
		same(t, x.grant(station, -1, -1, 0, -1).e, api.ErrRange, "Grant", station)
		same(t, x.ack(station, 1), api.ErrRange, "Ack", station)
		same(t, x.ack(station, -1), api.ErrRange, "Ack", station)
		same(t, twoOf(x.s.Reserved(station, 5)), two{e: api.ErrRange}, "Reserved", station)
	}
	for _, p := range wild {
		for _, now := range []int64{10, 5} { // before that it is old
			same(t, x.grant(0, p, 1, 20, now).e, api.ErrArg, "Grant", p, 1, now)
			same(t, x.grant(0, 1, p, 20, now).e, api.ErrArg, "Grant", 1, p, now)
		}
	}
	for _, now := range wildNumbers() {
		same(t, x.grant(0, 1, 1, now+1, now).e, api.ErrArg, "Grant at", now)
		same(t, x.grant(0, 1, 1, 5, now).e, api.ErrArg, "Grant at", now)
	}
	for _, until := range append(wildNumbers(), 0, 9, 10, 10+longest+1) {
		same(t, x.grant(0, 1, 1, until, 10).e, api.ErrArg, "Grant until", until)
	}
	same(t, x.grant(0, 1, 1, 5, 5).e, api.ErrArg, "Grant until now, and before")
	same(t, x.grant(0, 1, 1, 6, 5).e, api.ErrOld, "Grant before")
	same(t, x.grant(0, 101, 1, 10, 9).e, api.ErrOld, "Grant of too much before")
	same(t, x.grant(0, 101, 1, 20, 10).e, api.ErrLimit, "Grant of too much")
	same(t, x.grant(1, 41, 1, 510, 500).e, api.ErrLimit, "Grant of too much")
	same(t, x.grant(1, 1, 31, 20, 10).e, api.ErrLimit, "Grant of too much back")
	same(t, x.grant(1, 40, 30, 11, 10), good(lease(1, 40, 30, 11)), "Grant of the rest, for the shortest time") // no error has changed the number, or the time
	same(t, x.grant(0, 60, 20, 10+longest, 10), good(lease(2, 60, 20, 10+longest)), "Grant for the longest time")
	same(t, x.grant(0, 60, 20, mostTime+longest, mostTime), good(lease(3, 60, 20, mostTime+longest)), "Grant at the last time")
	same(t, x.grant(0, 60, 20, mostTime+longest+1, mostTime).e, api.ErrArg, "Grant for too long")
	same(t, x.grant(0, 60, 20, mostTime, mostTime-1).e, api.ErrOld, "Grant before")
	x.check(0, mostTime+longest-1, mostTime+longest)
}

// P9.5: a station has at most 64 leases that are not over.
func TestManyLeases(t *testing.T) {
	x := newSites(t, 2, 100, 100)
	for i := range mostLeases {
		same(t, x.grant(1, 50, 0, 100+int64(i), 0).x.Number, i+1, "the number of a lease")
	}
	same(t, x.grant(1, 50, 0, 200, 0).e, api.ErrFull, "Grant of one more")
	same(t, x.grant(1, 500, 0, 200, 99).e, api.ErrFull, "Grant of one more, and of too much")
	same(t, x.grant(0, 50, 0, 200, 0).e, api.OK, "Grant to another station")
	same(t, x.grant(1, 50, 0, 200, 100).x.Number, 65, "the number of a lease, when one is over")
	same(t, x.grant(1, 50, 0, 200, 100).e, api.ErrFull, "Grant of one more")
	same(t, x.ack(1, 4), api.OK, "Ack") // of 2 to 65 two are over
	same(t, x.grant(1, 50, 0, 200, 100).x.Number, 66, "the number of a lease")
	same(t, x.grant(1, 50, 0, 200, 100).x.Number, 67, "the number of a lease")
	same(t, x.grant(1, 50, 0, 200, 100).e, api.ErrFull, "Grant of one more")
	x.check(0, 99, 100, 150)
	same(t, x.ack(1, 67), api.OK, "Ack")
	for i := range mostLeases - 1 {
		same(t, x.grant(1, int64(i%50), int64(i%60), 101, 100).e, api.OK, "Grant", i)
	}
	same(t, x.grant(1, 0, 0, 101, 100).e, api.ErrFull, "Grant of one more")
	same(t, x.grant(1, 0, 0, 102, 101).e, api.OK, "Grant when most are over")
	x.check(0, 101, 199, 200)
}

// P9.5: which numbers are acknowledged.
func TestAck(t *testing.T) {
	x := newSites(t, 2, 100, 100)
	same(t, x.ack(0, 1), api.ErrNone, "Ack of no lease")
	for i := range 6 {
		x.grant(0, int64(60-10*i), int64(10*i), 100, 0)
	}
	for _, number := range []int{0, -1, 7, math.MaxInt, math.MinInt, 1 << 32} {
		same(t, x.ack(0, number), api.ErrNone, "Ack", number)
		same(t, x.ack(1, number), api.ErrNone, "Ack", number)
	}
	same(t, x.ack(1, 1), api.ErrNone, "Ack of a lease of another station")
	for _, step := range []struct {
		number     int
		draw, back int64
	}{{1, 60, 50}, {3, 40, 50}, {2, 40, 50}, {1, 40, 50}, {3, 40, 50}, {5, 20, 50}, {6, 10, 50}, {4, 10, 50}, {6, 10, 50}} {
		same(t, x.ack(0, step.number), api.OK, "Ack", step.number)
		for _, at := range []int64{0, 99, math.MinInt64} {
			same(t, twoOf(x.s.Reserved(0, at)), two{step.draw, step.back, api.OK}, "Reserved behind Ack", step.number, at)
		}
		same(t, twoOf(x.s.Reserved(0, 100)), two{}, "Reserved when all is over")
	}
}

// P9.5: what is reserved at any time, also at one that is before that of the site.
func TestReserved(t *testing.T) {
	x := newSites(t, 2, 100, 100)
	x.grant(0, 70, 10, 10, 0)
	x.grant(0, 50, 20, 20, 5)
	x.grant(1, 30, 80, 15, 5)
	x.grant(0, 70, 0, 40, 30)
	for _, y := range []struct{ at, draw, back, draw1, back1 int64 }{
		{math.MinInt64, 70, 20, 30, 80}, {-1, 70, 20, 30, 80}, {0, 70, 20, 30, 80}, {9, 70, 20, 30, 80}, {10, 70, 20, 30, 80},
		{14, 70, 20, 30, 80}, {15, 70, 20, 0, 0}, {19, 70, 20, 0, 0}, {20, 70, 0, 0, 0}, {39, 70, 0, 0, 0}, {40, 0, 0, 0, 0}, {math.MaxInt64, 0, 0, 0, 0},
	} {
		same(t, twoOf(x.s.Reserved(0, y.at)), two{y.draw, y.back, api.OK}, "Reserved", 0, y.at)
		same(t, twoOf(x.s.Reserved(1, y.at)), two{y.draw1, y.back1, api.OK}, "Reserved", 1, y.at)
	}
	x.ack(0, 2)
	same(t, twoOf(x.s.Reserved(0, 0)), two{a: 70, b: 20}, "Reserved behind Ack")
	x.ack(0, 3)
	same(t, twoOf(x.s.Reserved(0, 0)), two{a: 70}, "Reserved behind Ack")
	x.grant(0, 0, 0, 50, 40)
	same(t, twoOf(x.s.Reserved(0, 39)), two{a: 70}, "Reserved before the time of the site")
	same(t, twoOf(x.s.Reserved(0, 40)), two{}, "Reserved at the time of the site")
}

// drawGrant draws what Grant gets.
func drawGrant(r *rand.Rand, m *siteModel) (station int, draw, back, until, now int64) {
	now = m.time + pick[int64](r, 0, 0, 0, 1, 2, drawInt(r, 0, 9), drawInt(r, -2, 0))
	power := func(most int64) int64 { return drawAny(r, min(most, drawInt(r, 0, 1+most/2)), most, most+1, -1) }
	until = drawAny(r, now+drawInt(r, 1, 12), now, now-1, now+longest, now+longest+1)
	return r.Intn(len(m.granted)), power(m.draw), power(m.back), until, now
}

// P9.5: sites to which anything is done, and copies.
func TestDrawnSites(t *testing.T) {
	r := chance(5)
	for range 120 {
		x := newSites(t, pick(r, 1, 2, 3, mostStations), drawInt(r, 0, 60), drawInt(r, 0, 60))
		for range 200 {
			switch r.Intn(8) {
			case 0, 1, 2, 3, 4:
				x.grant(drawGrant(r, x.m))
			case 5, 6:
				station := r.Intn(len(x.m.granted))
				x.ack(station, drawAny(r, r.Intn(len(x.m.granted[station])+1), int(pick(r, wildNumbers()...))))
			case 7:
				c := twoSites{t, x.s.Copy(), x.m.clone()}
				if r.Intn(2) == 0 {
					c, x = x, c
				}
				c.grant(drawGrant(r, c.m))
				c.ack(0, len(c.m.granted[0]))
				c.check()
			}
			x.check(drawInt(r, 0, 1+x.m.time), x.m.time+drawInt(r, 0, 12))
		}
	}
}

// P9.12, G5: posts take leases at any times, in any order, often or never; the site acknowledges only numbers that are not greater than that of the post.
func TestLimitsOfSites(t *testing.T) {
	r := chance(6)
	for range 150 {
		stations, draw, back := 1+r.Intn(5), drawInt(r, 0, 50), drawInt(r, 0, 50)
		s := newSite(t, stations, draw, back)
		posts := make([]*charge.Post, stations)
		leases := make([][]api.Lease, stations)
		for i := range posts {
			posts[i] = charge.NewPost()
		}
		now := int64(0)
		for range 300 {
			i := r.Intn(stations)
			switch p := posts[i]; r.Intn(4) {
			case 0, 1:
				now += pick[int64](r, 0, 0, 0, 1, 3)
				if l, e := s.Grant(i, drawInt(r, 0, draw), drawInt(r, 0, back), now+drawInt(r, 1, 20), now); e == api.OK {
					leases[i] = append(leases[i], l)
				}
			case 2:
				if len(leases[i]) > 0 {
					p.Take(pick(r, leases[i]...))
				}
			case 3:
				s.Ack(i, max(0, p.Number()-pick(r, 0, 0, 1, 2)))
			}
			checkPosts(t, posts, draw, back, now)
		}
	}
}

// checkPosts checks that all posts together may use no more than the limits, at each time that is not before now.
func checkPosts(t *testing.T, posts []*charge.Post, draw, back, now int64) {
	t.Helper()
	for at := now; at < now+21; at++ {
		sumDraw, sumBack := int64(0), int64(0)
		for _, p := range posts {
			x := most(p, at)
			sumDraw, sumBack = sumDraw+x.a, sumBack+x.b
		}
		if sumDraw > draw || sumBack > back {
			t.Fatalf("at %d the posts may use %d and %d, and the limits are %d and %d", at, sumDraw, sumBack, draw, back)
		}
	}
}

// P9.5: a site that lives long is not slow.
func TestLongLivedSite(t *testing.T) {
	s := newSite(t, mostStations, mostPower, mostPower)
	for i := range 20000 {
		l, e := s.Grant(i%mostStations, 5, 6, int64(i)+40, int64(i))
		same(t, answerOf(l.Number, e), good(i/mostStations+1), "Grant", i)
	}
	same(t, twoOf(s.Reserved(3, 20000)), two{a: 5, b: 6}, "Reserved")
	same(t, twoOf(s.Reserved(3, 0)), two{a: 5, b: 6}, "Reserved")
}
