package protect_test

import (
	"math/rand"
	"slices"
	"testing"

	"coulomb/api"
	"coulomb/protect"
)

// calm is a truth within all limits of the examples, without a current.
func calm(changes ...change[api.Truth]) api.Truth {
	x := api.Truth{Value: good(), Link: volt, Pack: volt, Want: true}
	x.Value[api.VoteCurrent] = 0
	return made(x, changes)
}

// played plays truths.
func played(t *testing.T, g api.Guard, lag int, l []api.Break, truths []api.Truth) []api.Moment {
	t.Helper()
	out, e := protect.Play(g, lag, l, truths)
	if e != api.OK || len(out) != len(truths) {
		t.Fatalf("Play of %d truths: %d moments, %d", len(truths), len(out), e)
	}
	return out
}

// moment is one of a phase, with a cause, and with some contactors closed.
func moment(phase, cause int, path bool, closed ...int) api.Moment {
	return api.Moment{Phase: phase, Cause: cause, Act: actOf(phase), Closed: wires(closed...), Path: path}
}

// P5.10: what happens when contactors are closed, and opened again, tick by tick.
func TestPlay(t *testing.T) {
	const plus, minus, pre = api.ContactPlus, api.ContactMinus, api.ContactPre
	stop := calm(func(x *api.Truth) { x.Want = false })
	low := calm(func(x *api.Truth) { x.Link = 0 })
	truths := []api.Truth{low, low, calm(), calm(), calm(), stop, stop, stop, stop, stop, calm()}
	for _, x := range []struct {
		lag  int
		l    []api.Break
		want []api.Moment
	}{
		{0, nil, []api.Moment{
			moment(api.GuardPre, 0, true, minus, pre), moment(api.GuardPre, 0, true, minus, pre), moment(api.GuardClosed, 0, true, plus, minus), moment(api.GuardClosed, 0, true, plus, minus), moment(api.GuardClosed, 0, true, plus, minus),
			moment(api.GuardOpening, 0, false), moment(api.GuardOpening, 0, false), moment(api.GuardOpening, 0, false), moment(api.GuardOpening, 0, false), moment(api.GuardOpen, 0, false), moment(api.GuardPre, 0, true, minus, pre),
		}},
		{2, nil, []api.Moment{
			moment(api.GuardPre, 0, false), moment(api.GuardPre, 0, false), moment(api.GuardClosed, 0, true, minus, pre), moment(api.GuardClosed, 0, true, minus, pre), moment(api.GuardClosed, 0, true, plus, minus),
			moment(api.GuardOpening, 0, true, plus, minus), moment(api.GuardOpening, 0, true, plus, minus), moment(api.GuardOpening, 0, false), moment(api.GuardOpening, 0, false), moment(api.GuardOpen, 0, false), moment(api.GuardPre, 0, false),
		}},
		{1, []api.Break{{Kind: api.BreakWeld, A: minus}}, []api.Moment{
			moment(api.GuardPre, 0, false), moment(api.GuardPre, 0, true, minus, pre), moment(api.GuardClosed, 0, true, minus, pre), moment(api.GuardClosed, 0, true, plus, minus), moment(api.GuardClosed, 0, true, plus, minus),
			moment(api.GuardOpening, 0, true, plus, minus), moment(api.GuardOpening, 0, false, minus), moment(api.GuardOpening, 0, false, minus), moment(api.GuardOpening, 0, false, minus),
			moment(api.GuardOff, api.CauseWeld, false, minus), moment(api.GuardOff, api.CauseWeld, false, minus),
		}},
		{0, []api.Break{{Kind: api.BreakBack, A: pre, B: true}}, slices.Repeat([]api.Moment{moment(api.GuardOff, api.CauseWeld, false)}, 11)},
		{0, []api.Break{{Kind: api.BreakStuck, A: plus}}, []api.Moment{
			moment(api.GuardPre, 0, true, minus, pre), moment(api.GuardPre, 0, true, minus, pre), moment(api.GuardClosed, 0, false, minus), moment(api.GuardClosed, 0, false, minus), moment(api.GuardClosed, 0, false, minus),
			moment(api.GuardOpening, 0, false), moment(api.GuardOpening, 0, false), moment(api.GuardOpening, 0, false), moment(api.GuardOpening, 0, false), moment(api.GuardOpen, 0, false), moment(api.GuardPre, 0, true, minus, pre),
		}},
	} {
		if got := played(t, guard(), x.lag, x.l, truths); !slices.Equal(got, x.want) {
			t.Errorf("Play with the lag %d, %v: %v", x.lag, x.l, got)
		}
	}
}

// P5.10, P5.15: welds, and a current; the pyro fuse is fired OpenTicks behind the order to open.
func TestPlayOfWelds(t *testing.T) {
	const plus, minus = api.ContactPlus, api.ContactMinus
	for _, welds := range [][]int{{plus, minus}, {plus}, {minus}} {
		var l []api.Break
		for _, a := range welds {
			l = append(l, api.Break{Kind: api.BreakWeld, A: a})
		}
		var flowing, late []api.Truth
		for i := range 20 {
			flowing = append(flowing, calm(func(x *api.Truth) { x.Want, x.Value[api.VoteCurrent] = i < 5, 5000 }))
			late = append(late, calm(func(x *api.Truth) { // it flows again but for a tick
				x.Want = i < 5
				if i >= 10 && i != 12 {
					x.Value[api.VoteCurrent] = -5000
				}
			}))
		}
		path := len(welds) == 2
		out := played(t, guard(), 2, l, flowing)
		checkMoments(t, out[4:7], moment(api.GuardClosed, 0, true, plus, minus), moment(api.GuardOpening, 0, true, plus, minus), moment(api.GuardOpening, 0, true, plus, minus))
		checkMoments(t, out[7:10], moment(api.GuardOpening, 0, path, welds...), moment(api.GuardOpening, 0, path, welds...), moment(api.GuardDead, 0, false, welds...))
		checkMoments(t, out[19:], moment(api.GuardDead, 0, false, welds...))
		out = played(t, guard(), 2, l, late)
		checkMoments(t, out[8:16], append([]api.Moment{moment(api.GuardOpening, 0, path, welds...)}, slices.Repeat([]api.Moment{moment(api.GuardOff, api.CauseWeld, path, welds...)}, 7)...)...)
		checkMoments(t, out[16:18], moment(api.GuardDead, api.CauseWeld, false, welds...), moment(api.GuardDead, api.CauseWeld, false, welds...))
	}
}

// checkMoments checks some moments.
func checkMoments(t *testing.T, got []api.Moment, want ...api.Moment) {
	t.Helper()
	if !slices.Equal(got, want) {
		t.Errorf("%v, not %v", got, want)
	}
}

// P5.10: the chapter's reaction time is met, and needed.
func TestPlayOfHeat(t *testing.T) {
	for _, lag := range []int{0, 2, 20} {
		g := guard(opens(lag + 1))
		var truths []api.Truth
		for i := range 100 {
			truths = append(truths, calm(func(x *api.Truth) {
				if i >= 50 {
					x.Value[api.VoteTemp] = 332000
				}
			}))
		}
		n, _ := protect.Reaction(g, api.CauseHot, lag)
		out := played(t, g, lag, nil, truths)
		for i, m := range out {
			if i >= lag+1 && m.Path != (i < 50+n-1) || i >= 52 && m.Cause != api.CauseHot || i < 52 && m.Cause != api.CauseNone {
				t.Errorf("lag %d, tick %d: %v", lag, i, m)
			}
		}
	}
}

// P5.10, R1, R3
func TestErrorsOfPlay(t *testing.T) {
	wrong := func(g api.Guard, lag int, l []api.Break, truths []api.Truth, want api.Errno) {
		t.Helper()
		if out, e := protect.Play(g, lag, l, truths); len(out) != 0 || e != want {
			t.Errorf("Play: %d moments, %d, not %d", len(out), e, want)
		}
	}
	impossible := calm(func(x *api.Truth) { x.Link = most + 1 })
	many := slices.Repeat([]api.Truth{calm()}, 2001)
	for _, truths := range [][]api.Truth{nil, {}, {calm()}, {impossible}, many, slices.Repeat([]api.Truth{impossible}, 2001)} {
		for _, g := range wildGuards() {
			wrong(g, 21, []api.Break{{Kind: 7}}, truths, api.ErrArg)
		}
		wrong(guard(), 21, make([]api.Break, 17), truths, api.ErrRange)
		wrong(guard(), -1, []api.Break{{Kind: 7}}, truths, api.ErrRange)
		wrong(guard(), 20, slices.Repeat([]api.Break{{Kind: 7}}, 17), truths, api.ErrMany)
		wrong(guard(), 20, []api.Break{{}, {Kind: 7}}, truths, api.ErrArg)
	}
	wrong(guard(), 20, nil, many, api.ErrMany)
	wrong(guard(), 0, nil, append([]api.Truth{impossible}, many...), api.ErrMany)
	wrong(guard(), 0, nil, append(many[:1999:1999], impossible), api.ErrArg)
	wrong(guard(), 0, nil, []api.Truth{impossible}, api.ErrArg)
	for _, l := range [][]api.Break{nil, {}} {
		for _, truths := range [][]api.Truth{nil, {}} {
			if out := played(t, guard(), 3, l, truths); len(out) != 0 {
				t.Errorf("Play of nothing: %v", out)
			}
		}
	}
	out := played(t, guard(), 20, nil, many[:2000])
	if out[1999] != moment(api.GuardOff, api.CauseBack, false) { // with such a lag the reports are missing
		t.Errorf("the last one of 2,000 moments: %v", out[1999])
	}
}

// drawTimes draws truths in moods.
func drawTimes(r *rand.Rand, n int) []api.Truth {
	var l []api.Truth
	now := mood{}
	for range n {
		if r.Intn(8) == 0 {
			now = drawMood(r)
		}
		s := drawSignals(r, now, [3]bool{})
		x := api.Truth{Value: [5]int64{98, 102, now.current, 98, 102}, Lie: drawChannels(r)[0].Value, Crash: count(s.Crash) == 3, Water: count(s.Water) > 1, Link: s.Link, Pack: s.Pack, Want: s.Want, Reset: s.Reset}
		x.Value[now.quantity] += now.by
		for q := range x.Lie {
			x.Lie[q] = max(-most, min(most, x.Lie[q]))
			for i := range x.Error {
				x.Error[i][q] = drawInt(r, -1, 1)
			}
		}
		l = append(l, x)
	}
	return l
}

// P5.10: drawn plays, by the chapter's description.
func TestDrawnPlays(t *testing.T) {
	r := chance(510)
	for range 600 {
		g, l := drawGuard(r), drawBreaks(r)
		lag := pick(r, 0, 0, 1, 2, 3, r.Intn(21))
		g.OpenTicks += pick(r, 0, lag)
		truths := drawTimes(r, 150)
		m, p := machineModel{g: g}, plantModel{lag: lag, faults: l}
		for i, got := range played(t, g, lag, l, truths) {
			a := m.step(wantSignals(&p, truths[i]))
			p.move(a)
			if want := (api.Moment{Phase: m.phase, Cause: m.cause, Act: a, Closed: p.closed, Path: p.path()}); got != want {
				t.Fatalf("tick %d with %v, lag %d, %v: %v, not %v", i, g, lag, l, got, want)
			}
		}
	}
}
