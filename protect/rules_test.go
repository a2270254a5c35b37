package protect_test

import (
	"math/rand"
	"slices"
	"testing"

	"coulomb/api"
	"coulomb/protect"
)

// R4, P5.5 to P5.7: machines that NewMachine has not made.
func TestMachinesThatAreNotValid(t *testing.T) {
	for _, m := range []*protect.Machine{nil, {}, new(protect.Machine)} {
		for range 2 {
			for _, s := range []api.Signals{{}, signals(), signals(linked(most+1, 0)), signals(crash(0, 1, 2))} {
				if a, e := m.Step(s); a != (api.Act{}) || e != api.ErrNil {
					t.Errorf("Step: %v, %d", a, e)
				}
			}
			for _, g := range []api.Guard{guard(), {}} {
				if n, e := m.With(g); n != nil || e != api.ErrNil {
					t.Errorf("With: %v, %d", n, e)
				}
			}
			if c := m.Copy(); c != nil {
				t.Errorf("Copy: %v", c)
			}
			if m.Phase() != 0 || m.Cause() != 0 || m.Bad() != [3]bool{} || m.Act() != (api.Act{}) {
				t.Errorf("a machine that is not valid tells %d, %d, %v, %v", m.Phase(), m.Cause(), m.Bad(), m.Act())
			}
		}
	}
}

// R4, P5.8, P5.9: plants that NewPlant has not made.
func TestPlantsThatAreNotValid(t *testing.T) {
	for _, p := range []*protect.Plant{nil, {}, new(protect.Plant)} {
		for range 2 {
			for _, x := range []api.Truth{{}, truth(), calm(func(x *api.Truth) { x.Pack = most + 1 })} {
				if s, e := p.Show(x); s != (api.Signals{}) || e != api.ErrNil {
					t.Errorf("Show: %v, %d", s, e)
				}
			}
			for _, a := range []api.Act{{}, drive(0, 1, 2), {Fire: true}} {
				if e := p.Move(a); e != api.ErrNil {
					t.Errorf("Move: %d", e)
				}
			}
			if c := p.Copy(); c != nil {
				t.Errorf("Copy: %v", c)
			}
			if p.Closed() != [3]bool{} || p.Path() {
				t.Errorf("a plant that is not valid tells %v, %t", p.Closed(), p.Path())
			}
		}
	}
}

// R5, P5.4, P5.8, P5.10: lists are neither changed nor kept, and results share no memory.
func TestListsShareNothing(t *testing.T) {
	breaks := []api.Break{{Kind: api.BreakWeld, A: 1}, {Kind: api.BreakBack, A: 2, B: true}, {Kind: api.BreakLie}, {Kind: api.BreakMute, A: 1}, {Kind: api.BreakWire, A: 2, B: true}, {Kind: api.BreakStuck, A: 2}}
	given := slices.Clone(breaks)
	truths := []api.Truth{calm(), truth(), calm(), calm(func(x *api.Truth) { x.Crash = true }), calm()}
	currents := []int64{5, -7, 9}
	p, model := newPlant(t, 1, given...), plantModel{lag: 1, faults: breaks}
	kept, e := protect.NewPlant(1, given)
	if e != api.OK {
		t.Fatalf("NewPlant: %d", e)
	}
	protect.Melts(api.Fuse{Rating: 1, Melt: 5}, currents)
	first := played(t, guard(), 1, given, truths)
	again := played(t, guard(), 1, given, truths)
	want := slices.Clone(again)
	if !slices.Equal(given, breaks) || !slices.Equal(truths, []api.Truth{calm(), truth(), calm(), calm(func(x *api.Truth) { x.Crash = true }), calm()}) || !slices.Equal(currents, []int64{5, -7, 9}) {
		t.Errorf("an argument is changed: %v, %v, %v", given, truths, currents)
	}
	clear(given)
	clear(truths)
	clear(first[:cap(first)])
	if !slices.Equal(again, want) {
		t.Errorf("results share memory: %v", again)
	}
	c := kept.Copy()
	for i := range 6 {
		a := api.Act{Drive: allThree()[7-i]}
		model.move(a)
		for _, x := range []*protect.Plant{p, kept, c} {
			if e := x.Move(a); e != api.OK || x.Closed() != model.closed || shows(t, x, truth()) != wantSignals(&model, truth()) {
				t.Errorf("a plant whose list was changed: %d, %v, not %v", e, x.Closed(), model.closed)
			}
		}
	}
}

// R3: nil and empty lists are the same.
func TestNilAndEmpty(t *testing.T) {
	a, b := newPlant(t, 2), newPlant(t, 2, []api.Break{}...)
	c, e := protect.NewPlant(2, []api.Break{})
	if e != api.OK {
		t.Fatalf("NewPlant: %d", e)
	}
	for i := range 8 {
		for _, p := range []*protect.Plant{a, b, c} {
			p.Move(api.Act{Drive: allThree()[7-i], Fire: i == 5})
		}
		if a.Closed() != b.Closed() || a.Closed() != c.Closed() || a.Path() != c.Path() || shows(t, a, truth()) != shows(t, c, truth()) {
			t.Errorf("move %d: %v, %v, %v", i, a.Closed(), b.Closed(), c.Closed())
		}
	}
	for _, l := range [][]int64{nil, {}} {
		checkMelts(t, api.Fuse{Melt: 1}, l, never)
	}
}

// outcome is what one call has returned: its error, and whether everything else is zero.
type outcome struct {
	name  string
	errno api.Errno
	zero  bool
}

// wildArguments are arguments of all kinds, possible ones and others.
type wildArguments struct {
	g           api.Guard
	quantity, n int
	bad         [3]bool
	text        string
	fuse        api.Fuse
	currents    []int64
	s           api.Signals
	l           []api.Break
	truths      []api.Truth
	act         api.Act
}

// drawAny draws a value, mostly one of the good ones.
func drawAny[T any](r *rand.Rand, good T, wild ...T) T {
	if r.Intn(3) > 0 {
		return good
	}
	return pick(r, wild...)
}

// drawWild draws arguments.
func drawWild(r *rand.Rand, impossible []api.Truth) wildArguments {
	a := wildArguments{g: drawAny(r, drawGuard(r), wildGuards()...), quantity: drawAny(r, r.Intn(5), int(drawNumber(r))), n: drawAny(r, r.Intn(21), int(drawNumber(r))), bad: pick(r, allThree()...), l: drawBreaks(r), act: drawAct(r)}
	a.text = drawAny(r, textOf(a.g), "", "guard", "guard 1", textOf(a.g)+" ")
	a.fuse = api.Fuse{Rating: drawAny(r, 5, drawNumber(r)), Melt: drawAny(r, 50, drawNumber(r))}
	a.s = drawSignals(r, drawMood(r), pick(r, allThree()...))
	a.s.Channels = drawAny(r, a.s.Channels, drawChannels(r))
	a.s.Link, a.s.Pack = drawAny(r, a.s.Link, drawNumber(r)), drawAny(r, a.s.Pack, drawNumber(r))
	for range r.Intn(6) {
		a.currents = append(a.currents, drawAny(r, drawInt(r, -20, 20), drawNumber(r)))
		a.truths = append(a.truths, drawTruth(r))
	}
	if r.Intn(4) == 0 {
		a.l = append(a.l, pick(r, wildBreaks()...))
		a.truths = append(a.truths, pick(r, impossible...))
	}
	return a
}

// callAll calls all functions that return an error.
func callAll(a wildArguments, m *protect.Machine, p *protect.Plant) []outcome {
	text, e := protect.Text(a.g)
	g, e2 := protect.Parse(a.text)
	lower, upper, some, e3 := protect.Vote(a.g, a.s.Channels, a.bad, a.quantity)
	holds, e4 := protect.Holds(a.g, a.s.Channels, a.bad)
	apart, e5 := protect.Apart(a.g, a.s.Channels, a.bad)
	ticks, e6 := protect.Reaction(a.g, a.quantity, a.n)
	at, melts, e7 := protect.Melts(a.fuse, a.currents)
	n, e8 := protect.NewMachine(a.g)
	act, e9 := m.Step(a.s)
	l := []outcome{
		{"Check", protect.Check(a.g), true}, {"Text", e, text == ""}, {"Parse", e2, g == api.Guard{}}, {"Vote", e3, lower == 0 && upper == 0 && !some}, {"Holds", e4, holds == [7]bool{}}, {"Apart", e5, apart == [3]bool{}},
		{"Reaction", e6, ticks == 0}, {"Melts", e7, at == 0 && !melts}, {"NewMachine", e8, n == nil}, {"Step", e9, act == api.Act{}},
	}
	w, e := m.With(a.g)
	q, e2 := protect.NewPlant(a.n, a.l)
	out, e3 := protect.Play(a.g, a.n, a.l, a.truths)
	l = append(l, outcome{"With", e, w == nil}, outcome{"NewPlant", e2, q == nil}, outcome{"Play", e3, len(out) == 0}, outcome{"Move", p.Move(a.act), true})
	for _, x := range a.truths {
		s, e := p.Show(x)
		l = append(l, outcome{"Show", e, s == api.Signals{}})
	}
	return l
}

// P1, R2, R6, R10: no arguments make a function panic; with an error all other results are zero; a call again returns the same.
func TestAnyArguments(t *testing.T) {
	r := chance(15)
	_, impossible := edgeTruths()
	for range 3000 {
		a := drawWild(r, impossible)
		m, p := newMachine(t, guard()), newPlant(t, r.Intn(21))
		first, again := callAll(a, m.Copy(), p.Copy()), callAll(a, m, p)
		for i, x := range first {
			if x.errno != api.OK && !x.zero {
				t.Errorf("%s returns more than the error %d", x.name, x.errno)
			}
			if x != again[i] {
				t.Errorf("%s does not return the same again: %v, %v", x.name, x, again[i])
			}
		}
	}
}
