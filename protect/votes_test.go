package protect_test

import (
	"math"
	"math/big"
	"math/rand"
	"testing"

	"coulomb/api"
	"coulomb/protect"
)

// vote is what Vote returns.
type vote struct {
	lower, upper int64
	some         bool
	errno        api.Errno
}

// voteOf calls Vote.
func voteOf(g api.Guard, l [3]api.Channel, bad [3]bool, quantity int) vote {
	lower, upper, some, e := protect.Vote(g, l, bad, quantity)
	return vote{lower, upper, some, e}
}

// differ reports whether two numbers differ by more than a spread.
func differ(a, b, by int64) bool {
	return new(big.Int).Sub(big.NewInt(a), big.NewInt(b)).CmpAbs(big.NewInt(by)) > 0
}

// usable lists the channels that are usable.
func usable(l [3]api.Channel, bad [3]bool) []int {
	var u []int
	for i, c := range l {
		if c.Has && !bad[i] {
			u = append(u, i)
		}
	}
	return u
}

// middle returns the middle one of three numbers: as many of the others are not below it as are not above it.
func middle(a, b, c int64) int64 {
	return max(min(a, b), min(a, c), min(b, c))
}

// wantVote is what Vote has to return for a valid guard and a quantity.
func wantVote(g api.Guard, l [3]api.Channel, bad [3]bool, quantity int) vote {
	u := usable(l, bad)
	switch len(u) {
	case 3:
		x := middle(l[0].Value[quantity], l[1].Value[quantity], l[2].Value[quantity])
		return vote{x, x, true, api.OK}
	case 2:
		a, b := l[u[0]].Value[quantity], l[u[1]].Value[quantity]
		if !differ(a, b, g.Spread[quantity]) {
			return vote{min(a, b), max(a, b), true, api.OK}
		}
	}
	return vote{}
}

// wantHolds is which conditions hold.
func wantHolds(g api.Guard, l [3]api.Channel, bad [3]bool) [7]bool {
	var v [5]vote
	disagree := false
	for i := range v {
		v[i] = wantVote(g, l, bad, i)
		disagree = disagree || !v[i].some
	}
	above := func(i int, limit int64) bool { return v[i].some && v[i].upper > limit }
	below := func(i int, limit int64) bool { return v[i].some && v[i].lower < limit }
	return [7]bool{above(0, g.MostVolt), below(1, g.LeastVolt), above(2, g.Out), below(2, -g.In), above(3, g.Hot), below(4, g.LeastIso), disagree}
}

// wantApart is which channels are apart.
func wantApart(g api.Guard, l [3]api.Channel, bad [3]bool) [3]bool {
	var apart [3]bool
	for i, c := range l {
		apart[i] = !bad[i] && !c.Has
		if len(usable(l, bad)) < 3 {
			continue
		}
		for q, x := range c.Value {
			if differ(x, middle(l[0].Value[q], l[1].Value[q], l[2].Value[q]), g.Spread[q]) {
				apart[i] = true
			}
		}
	}
	return apart
}

// orders are all orders of three channels.
func orders() [][3]int {
	return [][3]int{{0, 1, 2}, {0, 2, 1}, {1, 0, 2}, {1, 2, 0}, {2, 0, 1}, {2, 1, 0}}
}

// P5.2: votes of numbers in any order of the channels, for each quantity.
func TestVote(t *testing.T) {
	g := guard(func(g *api.Guard) { g.Spread = [5]int64{20, 20, 20, 20, 20} })
	for _, x := range []struct {
		numbers [3]int64
		want    [4]vote // of all three, and without one of them
	}{
		{[3]int64{100, 100, 100}, [4]vote{{100, 100, true, 0}, {100, 100, true, 0}, {100, 100, true, 0}, {100, 100, true, 0}}},
		{[3]int64{100, 110, 9999}, [4]vote{{110, 110, true, 0}, {}, {}, {100, 110, true, 0}}},
		{[3]int64{100, 120, 140}, [4]vote{{120, 120, true, 0}, {120, 140, true, 0}, {}, {100, 120, true, 0}}},
		{[3]int64{100, 121, 142}, [4]vote{{121, 121, true, 0}, {}, {}, {}}},
		{[3]int64{100, 120, 141}, [4]vote{{120, 120, true, 0}, {}, {}, {100, 120, true, 0}}},
		{[3]int64{-10, 0, 10}, [4]vote{{0, 0, true, 0}, {0, 10, true, 0}, {-10, 10, true, 0}, {-10, 0, true, 0}}},
		{[3]int64{-30, -20, -5}, [4]vote{{-20, -20, true, 0}, {-20, -5, true, 0}, {}, {-30, -20, true, 0}}},
		{[3]int64{-5000, 0, 5000}, [4]vote{{0, 0, true, 0}, {}, {}, {}}},
		{[3]int64{math.MinInt64, math.MinInt64 + 20, math.MaxInt64}, [4]vote{{math.MinInt64 + 20, math.MinInt64 + 20, true, 0}, {}, {}, {math.MinInt64, math.MinInt64 + 20, true, 0}}},
		{[3]int64{math.MinInt64, math.MaxInt64 - 20, math.MaxInt64}, [4]vote{{math.MaxInt64 - 20, math.MaxInt64 - 20, true, 0}, {math.MaxInt64 - 20, math.MaxInt64, true, 0}, {}, {}}},
		{[3]int64{math.MinInt64, 0, math.MaxInt64}, [4]vote{{0, 0, true, 0}, {}, {}, {}}},
		{[3]int64{math.MinInt64, math.MinInt64, math.MaxInt64}, [4]vote{{math.MinInt64, math.MinInt64, true, 0}, {}, {}, {math.MinInt64, math.MinInt64, true, 0}}},
		{[3]int64{-1 << 62, 1 << 62, 1 << 62}, [4]vote{{1 << 62, 1 << 62, true, 0}, {1 << 62, 1 << 62, true, 0}, {}, {}}},
	} {
		for quantity := range 5 {
			for _, order := range orders() {
				var l [3]api.Channel
				for i, n := range order {
					l[i] = api.Channel{Has: true, Value: good()}
					l[i].Value[quantity] = x.numbers[n]
				}
				if got := voteOf(g, l, [3]bool{}, quantity); got != x.want[0] {
					t.Errorf("Vote of %v as the quantity %d: %v, not %v", l, quantity, got, x.want[0])
				}
				for i, n := range order {
					muted := l
					muted[i].Has = false
					for _, got := range []vote{voteOf(g, l, wires(i), quantity), voteOf(g, muted, [3]bool{}, quantity), voteOf(g, muted, wires(i), quantity)} {
						if got != x.want[1+n] {
							t.Errorf("Vote of %v without the channel %d as the quantity %d: %v, not %v", l, i, quantity, got, x.want[1+n])
						}
					}
				}
			}
		}
	}
}

// P5.2: each quantity has its own spread, which just holds, or does not; with a spread of 0 numbers are equal.
func TestSpreadsOfVotes(t *testing.T) {
	g := guard(func(g *api.Guard) { g.Spread = [5]int64{0, 7, 500, most, 1} })
	for quantity, by := range g.Spread {
		for _, from := range []int64{0, -3, 1000, -most, math.MinInt64} {
			for _, swapped := range []bool{false, true} {
				for more := range int64(2) {
					s := signals(mute(0), show(quantity, 0, from, from+by+more))
					if swapped {
						s = signals(mute(0), show(quantity, 0, from+by+more, from))
					}
					want := vote{from, from + by, true, api.OK}
					if more > 0 {
						want = vote{}
					}
					if got := voteOf(g, s.Channels, [3]bool{}, quantity); got != want {
						t.Errorf("Vote of the quantity %d from %d on with %d more: %v, not %v", quantity, from, more, got, want)
					}
				}
			}
		}
	}
}

// P5.2: without two usable channels there are no votes, and what a channel shows that is not usable does not count.
func TestVotesOfFewChannels(t *testing.T) {
	for _, has := range allThree() {
		for _, bad := range allThree() {
			s := signals()
			n := 0
			for i := range 3 {
				s.Channels[i].Has = has[i]
				if has[i] && !bad[i] {
					n++
				} else {
					s.Channels[i].Value = [5]int64{math.MaxInt64, math.MinInt64, 77, -77, 5}
				}
			}
			for quantity := range 5 {
				want := vote{}
				if n >= 2 {
					x := signals().Channels[0].Value[quantity]
					want = vote{x, x, true, api.OK}
				}
				if got := voteOf(guard(), s.Channels, bad, quantity); got != want {
					t.Errorf("Vote with %v and %v, quantity %d: %v, not %v", has, bad, quantity, got, want)
				}
			}
			h, e := protect.Holds(guard(), s.Channels, bad)
			if h != [7]bool{6: n < 2} || e != api.OK {
				t.Errorf("Holds with %v and %v: %v, %d", has, bad, h, e)
			}
			a, e := protect.Apart(guard(), s.Channels, bad)
			if a != [3]bool{!has[0] && !bad[0], !has[1] && !bad[1], !has[2] && !bad[2]} || e != api.OK {
				t.Errorf("Apart with %v and %v: %v, %d", has, bad, a, e)
			}
		}
	}
}

// P5.2, R1: the errors.
func TestErrorsOfVotes(t *testing.T) {
	l := signals().Channels
	for _, g := range wildGuards() {
		for _, quantity := range []int{0, 4, 5, -1} {
			if got := voteOf(g, l, [3]bool{}, quantity); got != (vote{errno: api.ErrArg}) {
				t.Errorf("Vote of %v: %v", g, got)
			}
		}
		if h, e := protect.Holds(g, signals(mute(0, 1)).Channels, [3]bool{}); h != [7]bool{} || e != api.ErrArg {
			t.Errorf("Holds of %v: %v, %d", g, h, e)
		}
		if a, e := protect.Apart(g, signals(mute(0, 1)).Channels, [3]bool{}); a != [3]bool{} || e != api.ErrArg {
			t.Errorf("Apart of %v: %v, %d", g, a, e)
		}
	}
	for _, quantity := range []int{-1, 5, 6, 7, math.MinInt, math.MaxInt} {
		if got := voteOf(guard(), l, [3]bool{}, quantity); got != (vote{errno: api.ErrRange}) {
			t.Errorf("Vote of the quantity %d: %v", quantity, got)
		}
	}
}

// limitOf is a condition: the quantity, its limit in a guard, and the direction in which it is passed.
type limitOf struct {
	cause, quantity int
	limit           func(g api.Guard) int64
	beyond          int64
}

// limits are the first six conditions.
func limits() []limitOf {
	return []limitOf{
		{api.CauseOver, api.VoteHigh, func(g api.Guard) int64 { return g.MostVolt }, 1},
		{api.CauseUnder, api.VoteLow, func(g api.Guard) int64 { return g.LeastVolt }, -1},
		{api.CauseOut, api.VoteCurrent, func(g api.Guard) int64 { return g.Out }, 1},
		{api.CauseIn, api.VoteCurrent, func(g api.Guard) int64 { return -g.In }, -1},
		{api.CauseHot, api.VoteTemp, func(g api.Guard) int64 { return g.Hot }, 1},
		{api.CauseIso, api.VoteIso, func(g api.Guard) int64 { return g.LeastIso }, -1},
	}
}

// checkHolds checks that just some conditions hold, by their causes.
func checkHolds(t *testing.T, g api.Guard, l [3]api.Channel, bad [3]bool, causes ...int) {
	t.Helper()
	var want [7]bool
	for _, c := range causes {
		want[c-1] = true
	}
	if got, e := protect.Holds(g, l, bad); got != want || e != api.OK {
		t.Errorf("Holds of %v, %v: %v, %d, not %v", l, bad, got, e, causes)
	}
}

// P5.2: a condition holds just beyond its limit; of two channels it is the one that is further in its direction.
func TestHolds(t *testing.T) {
	g := guard()
	checkHolds(t, g, signals().Channels, [3]bool{})
	for _, x := range limits() {
		at := x.limit(g)
		over := at + x.beyond
		far := x.beyond * math.MaxInt64
		checkHolds(t, g, signals(show(x.quantity, at)).Channels, [3]bool{})
		checkHolds(t, g, signals(show(x.quantity, over)).Channels, [3]bool{}, x.cause)
		checkHolds(t, g, signals(show(x.quantity, far)).Channels, [3]bool{}, x.cause)
		checkHolds(t, g, signals(show(x.quantity, at, over, at)).Channels, [3]bool{})
		checkHolds(t, g, signals(show(x.quantity, over, at, over)).Channels, [3]bool{}, x.cause)
		checkHolds(t, g, signals(show(x.quantity, at, far, at)).Channels, [3]bool{})
		for i := range 3 {
			one := signals(show(x.quantity, at))
			one.Channels[i].Value[x.quantity] = over
			checkHolds(t, g, one.Channels, [3]bool{})
			checkHolds(t, g, one.Channels, wires((i+1)%3), x.cause)
			checkHolds(t, g, one.Channels, wires((i+2)%3), x.cause)
			checkHolds(t, g, one.Channels, wires(i))
			one.Channels[(i+1)%3].Has = false
			checkHolds(t, g, one.Channels, [3]bool{}, x.cause)
		}
		by := g.Spread[x.quantity]
		two := signals(mute(1), show(x.quantity, over, 0, over-by*x.beyond))
		two.Channels[1] = api.Channel{}
		checkHolds(t, g, two.Channels, [3]bool{}, x.cause)
		two.Channels[2].Value[x.quantity] -= x.beyond // they disagree now
		checkHolds(t, g, two.Channels, [3]bool{}, api.CauseSensor)
	}
	for quantity, by := range g.Spread {
		from := signals().Channels[0].Value[quantity]
		checkHolds(t, g, signals(show(quantity, from, from, from+by)).Channels, wires(0))
		checkHolds(t, g, signals(show(quantity, from, from, from+by+1)).Channels, wires(0), api.CauseSensor)
		checkHolds(t, g, signals(show(quantity, from, from, from+by+1)).Channels, [3]bool{})
	}
}

// P5.2: conditions about several quantities; both limits of the current can be passed at once.
func TestHoldsOfSeveral(t *testing.T) {
	g := guard(func(g *api.Guard) { g.Spread = [5]int64{20000, 20000, 200000, 2000, 10000} })
	checkHolds(t, g, signals(mute(1), show(api.VoteCurrent, -50001, 0, 100001)).Channels, [3]bool{}, api.CauseOut, api.CauseIn)
	all := signals(show(api.VoteHigh, 4200001), show(api.VoteLow, 2799999), show(api.VoteCurrent, -50001, 7, 100001), show(api.VoteTemp, 330001), show(api.VoteIso, 99999))
	checkHolds(t, g, all.Channels, [3]bool{}, 1, 2, 5, 6)
	checkHolds(t, g, all.Channels, wires(1), 1, 2, 3, 4, 5, 6)
	all.Channels[0].Value[api.VoteTemp] += 2001
	checkHolds(t, g, all.Channels, wires(1), 1, 2, 3, 4, 6, 7)
	checkHolds(t, g, all.Channels, wires(1, 2), 7)
	zero := guard(func(g *api.Guard) { g.In, g.Out = 0, 0 })
	for x, causes := range map[int64][]int{-1: {api.CauseIn}, 0: nil, 1: {api.CauseOut}, math.MinInt64: {api.CauseIn}, math.MaxInt64: {api.CauseOut}} {
		checkHolds(t, zero, signals(show(api.VoteCurrent, x)).Channels, [3]bool{}, causes...)
	}
}

// P5.2: a channel is apart by one of its numbers.
func TestApart(t *testing.T) {
	for _, g := range []api.Guard{guard(), guard(spread(0, 0), spread(3, 1), spread(4, most))} {
		for quantity, by := range g.Spread {
			for _, from := range []int64{0, -5, 3900000, math.MinInt64, math.MaxInt64 - most - 1} {
				for _, order := range orders() {
					for more := range int64(2) {
						x := [3]int64{from, from, from + by + more}
						l := signals(show(quantity, x[order[0]], x[order[1]], x[order[2]])).Channels
						var want [3]bool
						for i, n := range order {
							want[i] = n == 2 && more > 0
						}
						checkApart(t, g, l, [3]bool{}, want)
						checkApart(t, g, l, wires(0), [3]bool{}) // with two of them none is apart by its numbers
						checkApart(t, g, l, wires(1), [3]bool{})
						checkApart(t, g, l, wires(2), [3]bool{})
						l[1].Has = false
						checkApart(t, g, l, [3]bool{}, wires(1))
						checkApart(t, g, l, wires(1), [3]bool{})
						checkApart(t, g, l, wires(0, 2), wires(1))
					}
				}
			}
		}
	}
	g := guard()
	both := signals(show(api.VoteHigh, 4000000, 4020001, 4040002)).Channels // on both sides of the middle one
	checkApart(t, g, both, [3]bool{}, wires(0, 2))
	each := signals(show(api.VoteHigh, 4000000, 4000000, 9000000), show(api.VoteTemp, 300000, 0, 300000), show(api.VoteIso, 1, 500000, 500000)).Channels
	checkApart(t, g, each, [3]bool{}, wires(0, 1, 2))
	far := signals(show(api.VoteIso, math.MinInt64, math.MaxInt64, math.MaxInt64)).Channels
	checkApart(t, g, far, [3]bool{}, wires(0))
	checkApart(t, g, signals(show(api.VoteIso, math.MinInt64, 0, math.MaxInt64)).Channels, [3]bool{}, wires(0, 2))
	checkApart(t, g, signals(mute(0, 1, 2)).Channels, [3]bool{}, wires(0, 1, 2))
}

// checkApart checks which channels are apart.
func checkApart(t *testing.T, g api.Guard, l [3]api.Channel, bad, want [3]bool) {
	t.Helper()
	if got, e := protect.Apart(g, l, bad); got != want || e != api.OK {
		t.Errorf("Apart of %v, %v: %v, %d, not %v", l, bad, got, e, want)
	}
}

// drawChannels draws channels that show numbers that are near to each other, or any ones.
func drawChannels(r *rand.Rand) [3]api.Channel {
	var l [3]api.Channel
	for q := range 5 {
		around := pick(r, 100, 100, 100, drawNumber(r))
		for i := range l {
			l[i].Value[q] = around + drawInt(r, -6, 6)
			if r.Intn(10) == 0 {
				l[i].Value[q] = drawNumber(r)
			}
		}
	}
	for i := range l {
		l[i].Has = r.Intn(8) > 0
	}
	return l
}

// P5.2: drawn channels, by the definitions.
func TestDrawnVotes(t *testing.T) {
	r := chance(52)
	for range 20000 {
		g, l, bad := drawGuard(r), drawChannels(r), pick(r, [3]bool{}, pick(r, allThree()...))
		for q := range 5 {
			if got, want := voteOf(g, l, bad, q), wantVote(g, l, bad, q); got != want {
				t.Errorf("Vote of %v, %v, %v, %d: %v, not %v", g, l, bad, q, got, want)
			}
		}
		if got, e := protect.Holds(g, l, bad); got != wantHolds(g, l, bad) || e != api.OK {
			t.Errorf("Holds of %v, %v, %v: %v, %d", g, l, bad, got, e)
		}
		checkApart(t, g, l, bad, wantApart(g, l, bad))
	}
}

// P5.11: if two usable channels are near to a true number, there are votes that are, whatever the third one shows.
func TestVotesAreNearToTheTruth(t *testing.T) {
	r := chance(511)
	for range 20000 {
		g := guard()
		q := r.Intn(5)
		g.Spread[q] = pick[int64](r, 0, 1, 2, 3, 7, 1000, most-1, most)
		half := g.Spread[q] / 2
		truth := drawInt(r, -most, most)
		l := drawChannels(r)
		var bad [3]bool
		third := r.Intn(3)
		bad[third] = r.Intn(3) == 0
		for i := range l {
			if i != third {
				l[i].Has = true
				l[i].Value[q] = truth + pick(r, -half, half, drawInt(r, -half, half))
			}
		}
		l[third].Value[q] = pick(r, drawNumber(r), truth, truth+half+1, truth-half-1)
		got := voteOf(g, l, bad, q)
		if got.errno != api.OK || !got.some || differ(got.lower, truth, half) || differ(got.upper, truth, half) || got.lower > got.upper {
			t.Errorf("Vote of %v, %v for %d with a spread of %d: %v", l, bad, truth, g.Spread[q], got)
		}
	}
}

// P5.2: the table of the chapter's examples.
func TestExamplesOfVotes(t *testing.T) {
	for _, x := range []struct {
		s    api.Signals
		want vote
	}{
		{signals(show(api.VoteHigh, 4000000, 4010000, 9999999)), vote{4010000, 4010000, true, api.OK}},
		{signals(show(api.VoteHigh, 4000000, 4010000), mute(2)), vote{4000000, 4010000, true, api.OK}},
		{signals(show(api.VoteHigh, 4000000, 4030000), mute(2)), vote{}},
	} {
		if got := voteOf(guard(), x.s.Channels, [3]bool{}, api.VoteHigh); got != x.want {
			t.Errorf("Vote of %v: %v", x.s.Channels, got)
		}
	}
}
