package protect

import (
	"slices"

	"coulomb/api"
)

// votes are the lower and the upper vote of a quantity, if there are some.
type votes struct {
	lower, upper int64
	some         bool
}

// sight is what three channels show a machine with a guard, to which some of them are bad.
type sight struct {
	guard    api.Guard
	channels [3]api.Channel
	bad      [3]bool
}

// condition is a condition, by its cause.
type condition struct {
	cause int
	holds func(s sight) bool
}

// Vote returns the votes of a quantity. (P5.2)
func Vote(g api.Guard, l [3]api.Channel, bad [3]bool, quantity int) (int64, int64, bool, api.Errno) {
	if e := Check(g); e != api.OK {
		return 0, 0, false, e
	}
	if !allFrom(api.VoteHigh, api.VoteIso, quantity) {
		return 0, 0, false, api.ErrRange
	}
	v := sight{g, l, bad}.vote(quantity)
	return v.lower, v.upper, v.some, api.OK
}

// Holds returns which conditions hold. (P5.2)
func Holds(g api.Guard, l [3]api.Channel, bad [3]bool) ([7]bool, api.Errno) {
	if e := Check(g); e != api.OK {
		return [7]bool{}, e
	}
	return sight{g, l, bad}.holds(), api.OK
}

// Apart returns which channels are apart. (P5.2)
func Apart(g api.Guard, l [3]api.Channel, bad [3]bool) ([3]bool, api.Errno) {
	if e := Check(g); e != api.OK {
		return [3]bool{}, e
	}
	return sight{g, l, bad}.apart(), api.OK
}

// conditions returns all conditions of a guard.
func conditions(g api.Guard) [7]condition {
	return [7]condition{
		{api.CauseOver, above(api.VoteHigh, g.MostVolt)},
		{api.CauseUnder, below(api.VoteLow, g.LeastVolt)},
		{api.CauseOut, above(api.VoteCurrent, g.Out)},
		{api.CauseIn, below(api.VoteCurrent, -g.In)},
		{api.CauseHot, above(api.VoteTemp, g.Hot)},
		{api.CauseIso, below(api.VoteIso, g.LeastIso)},
		{api.CauseSensor, sight.disagree},
	}
}

// above returns the condition that the upper vote of a quantity is greater than a limit.
func above(quantity int, limit int64) func(s sight) bool {
	return func(s sight) bool {
		v := s.vote(quantity)
		return v.some && v.upper > limit
	}
}

// below returns the condition that the lower vote of a quantity is less than a limit.
func below(quantity int, limit int64) func(s sight) bool {
	return func(s sight) bool {
		v := s.vote(quantity)
		return v.some && v.lower < limit
	}
}

// holds returns which conditions hold.
func (s sight) holds() [7]bool {
	var holds [7]bool
	for _, c := range conditions(s.guard) {
		holds[c.cause-1] = c.holds(s)
	}
	return holds
}

// disagree reports whether the channels disagree about a quantity.
func (s sight) disagree() bool {
	for quantity := range len(s.guard.Spread) {
		if !s.vote(quantity).some {
			return true
		}
	}
	return false
}

// current reports whether there is current.
func (s sight) current() bool {
	return above(api.VoteCurrent, s.guard.Leak)(s) || below(api.VoteCurrent, -s.guard.Leak)(s)
}

// vote returns the votes of a quantity.
func (s sight) vote(quantity int) votes {
	l := s.shown(quantity)
	switch {
	case len(l) == len(s.channels):
		return votes{l[1], l[1], true}
	case len(l) == 2 && s.near(quantity, l[0], l[1]):
		return votes{l[0], l[1], true}
	}
	return votes{}
}

// apart returns which channels are apart.
func (s sight) apart() [3]bool {
	var apart [3]bool
	for i := range len(s.channels) {
		apart[i] = !s.bad[i] && !s.channels[i].Has || s.differs(i)
	}
	return apart
}

// differs reports whether all channels are usable, and one of them shows a number that is too far from the middle one.
func (s sight) differs(i int) bool {
	for quantity, x := range s.channels[i].Value {
		l := s.shown(quantity)
		if len(l) == len(s.channels) && !s.near(quantity, l[1], x) {
			return true
		}
	}
	return false
}

// shown returns what the usable channels show of a quantity, the least number first.
func (s sight) shown(quantity int) []int64 {
	var l []int64
	for i := range len(s.channels) {
		if s.channels[i].Has && !s.bad[i] {
			l = append(l, s.channels[i].Value[quantity])
		}
	}
	slices.Sort(l)
	return l
}

// near reports whether two numbers of a quantity differ by at most its spread.
func (s sight) near(quantity int, a, b int64) bool {
	difference := uint64(max(a, b)) - uint64(min(a, b)) // it may be beyond int64
	return difference <= uint64(s.guard.Spread[quantity])
}
