package charge

import (
	"slices"

	"coulomb/api"
)

// Post is what a station knows of its leases.
type Post struct {
	self   *Post // one that was not made here does not point to itself, and is not valid
	newest api.Lease
}

// Site leases power to stations.
type Site struct {
	self     *Site // one that was not made here does not point to itself, and is not valid
	limits   power
	time     int64
	stations []granted
}

// granted is what a site has granted to a station. Leases before one that was acknowledged are over at all times, and forgotten.
type granted struct {
	last int
	live []api.Lease // those that are not over at the time of the site, which are few
	past []api.Lease // those that are over then, but were not before
}

// NewPost returns a post. (P9.4)
func NewPost() *Post { return newPost(api.Lease{}) }

// Take takes a lease. (P9.4)
func (p *Post) Take(l api.Lease) bool {
	if !p.valid() || l.Number <= p.newest.Number {
		return false
	}
	p.newest = l
	return true
}

// Most returns what may be used at a time. (P9.4)
func (p *Post) Most(at int64) (int64, int64) {
	if !p.valid() || at >= p.newest.Until {
		return 0, 0
	}
	return p.newest.Draw, p.newest.Back
}

// Number returns the number of the newest lease. (P9.4)
func (p *Post) Number() int {
	if !p.valid() {
		return 0
	}
	return p.newest.Number
}

// Copy returns an independent copy. (P9.4)
func (p *Post) Copy() *Post {
	if !p.valid() {
		return nil
	}
	return newPost(p.newest)
}

// newPost returns a post with a lease.
func newPost(l api.Lease) *Post {
	p := &Post{newest: l}
	p.self = p
	return p
}

// valid reports whether a post was made by a function of this package.
func (p *Post) valid() bool { return p != nil && p.self == p }

// NewSite returns a site. (P9.5)
func NewSite(stations int, draw, back int64) (*Site, api.Errno) {
	if stations < 1 || stations > api.MaxStations {
		return nil, api.ErrRange
	}
	if !isPower(draw) || !isPower(back) {
		return nil, api.ErrArg
	}
	return newSite(power{draw, back}, 0, make([]granted, stations)), api.OK
}

// Grant grants a lease. (P9.5)
func (s *Site) Grant(station int, draw, back, until, now int64) (api.Lease, api.Errno) {
	if !s.valid() {
		return api.Lease{}, api.ErrNil
	}
	if !s.has(station) {
		return api.Lease{}, api.ErrRange
	}
	if !isPower(draw) || !isPower(back) || !isTime(now) || !isFrom(until, now+1, now+api.MaxLease) {
		return api.Lease{}, api.ErrArg
	}
	if now < s.time {
		return api.Lease{}, api.ErrOld
	}
	g := &s.stations[station]
	if _, other := split(g.live, overAt(now)); len(other) >= api.MaxLeases {
		return api.Lease{}, api.ErrFull
	}
	l := api.Lease{Number: g.last + 1, Draw: draw, Back: back, Until: until}
	if !s.reservedWith(station, l, now).isWithin(s.limits) {
		return api.Lease{}, api.ErrLimit
	}
	s.pass(now)
	g.last, g.live = l.Number, append(g.live, l)
	return l, api.OK
}

// Ack acknowledges a lease. (P9.5)
func (s *Site) Ack(station, number int) api.Errno {
	if !s.valid() {
		return api.ErrNil
	}
	if !s.has(station) {
		return api.ErrRange
	}
	g := &s.stations[station]
	if number < 1 || number > g.last {
		return api.ErrNone
	}
	g.forgetBefore(number)
	return api.OK
}

// Reserved returns what is reserved for a station. (P9.5)
func (s *Site) Reserved(station int, at int64) (int64, int64, api.Errno) {
	if !s.valid() {
		return 0, 0, api.ErrNil
	}
	if !s.has(station) {
		return 0, 0, api.ErrRange
	}
	g := &s.stations[station]
	p := reserved(g.live, overAt(at)).or(reserved(g.past, overAt(at)))
	return p.draw, p.back, api.OK
}

// Copy returns an independent copy. (P9.5)
func (s *Site) Copy() *Site {
	if !s.valid() {
		return nil
	}
	return newSite(s.limits, s.time, s.stations)
}

// newSite returns a site that shares no memory with what it is made of.
func newSite(limits power, time int64, stations []granted) *Site {
	s := &Site{limits: limits, time: time, stations: slices.Clone(stations)}
	for i, g := range s.stations {
		s.stations[i].live, s.stations[i].past = slices.Clone(g.live), slices.Clone(g.past)
	}
	s.self = s
	return s
}

// valid reports whether a site was made by a function of this package.
func (s *Site) valid() bool { return s != nil && s.self == s }

// has reports whether there is a station.
func (s *Site) has(station int) bool { return isIndex(int64(station), len(s.stations)) }

// reservedWith returns what is reserved for all stations at a time that is not before that of the site, if one of them had one lease more.
func (s *Site) reservedWith(station int, l api.Lease, at int64) power {
	var all power
	for i, g := range s.stations {
		p := reserved(g.live, overAt(at))
		if i == station {
			p = p.or(power{l.Draw, l.Back})
		}
		all = all.plus(p)
	}
	return all
}

// pass lets the time of the site become a later one.
func (s *Site) pass(now int64) {
	s.time = now
	for i := range s.stations {
		g := &s.stations[i]
		over, other := split(g.live, overAt(now))
		g.past, g.live = append(g.past, over...), other
	}
}

// forgetBefore forgets the leases before one that is acknowledged.
func (g *granted) forgetBefore(number int) {
	isOver := func(l api.Lease) bool { return l.Number < number }
	g.live, g.past = slices.DeleteFunc(g.live, isOver), slices.DeleteFunc(g.past, isOver)
}

// overAt returns a function that reports whether a lease is over at a time.
func overAt(at int64) func(api.Lease) bool {
	return func(l api.Lease) bool { return l.Until <= at }
}

// split splits leases into those that are over, and the others.
func split(l []api.Lease, isOver func(api.Lease) bool) (over, other []api.Lease) {
	for _, x := range l {
		if isOver(x) {
			over = append(over, x)
		} else {
			other = append(other, x)
		}
	}
	return over, other
}

// reserved returns the greatest powers of those leases that are not over.
func reserved(l []api.Lease, isOver func(api.Lease) bool) power {
	var most power
	_, other := split(l, isOver)
	for _, x := range other {
		most = most.or(power{x.Draw, x.Back})
	}
	return most
}
