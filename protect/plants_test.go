package protect_test

import (
	"math"
	"math/rand"
	"slices"
	"testing"

	"coulomb/api"
	"coulomb/protect"
)

// validBreaks are all faults that are valid.
func validBreaks() []api.Break {
	l := []api.Break{{}}
	for a := range 3 {
		for kind := 1; kind <= 6; kind++ {
			l = append(l, api.Break{Kind: kind, A: a})
		}
		l = append(l, api.Break{Kind: api.BreakWire, A: a, B: true}, api.Break{Kind: api.BreakBack, A: a, B: true})
	}
	return l
}

// wildBreaks are faults that are not valid.
func wildBreaks() []api.Break {
	l := []api.Break{{A: 1}, {A: 2}, {A: -1}, {B: true}, {A: 1, B: true}}
	for kind := 1; kind <= 6; kind++ {
		for _, a := range []int{-1, 3, 4, math.MinInt, math.MaxInt} {
			l = append(l, api.Break{Kind: kind, A: a}, api.Break{Kind: kind, A: a, B: true})
		}
		if kind < api.BreakWire {
			l = append(l, api.Break{Kind: kind, A: 0, B: true}, api.Break{Kind: kind, A: 2, B: true})
		}
	}
	for _, kind := range []int{-1, 7, 8, math.MinInt, math.MaxInt} {
		l = append(l, api.Break{Kind: kind}, api.Break{Kind: kind, A: 1}, api.Break{Kind: kind, A: 3, B: true})
	}
	return l
}

// P5.8, R1
func TestNewPlant(t *testing.T) {
	for _, lag := range []int{0, 1, 19, 20} {
		for _, b := range validBreaks() {
			for _, n := range []int{0, 1, 2, 15, 16} {
				p := newPlant(t, lag, slices.Repeat([]api.Break{b}, n)...)
				if p.Closed() != [3]bool{} || p.Path() {
					t.Errorf("a new plant with %v: %v, %t", b, p.Closed(), p.Path())
				}
			}
		}
	}
	wrong := func(lag int, l []api.Break, want api.Errno) {
		t.Helper()
		if p, e := protect.NewPlant(lag, l); p != nil || e != want {
			t.Errorf("NewPlant with %d, %v: %v, %d", lag, l, p, e)
		}
	}
	many := make([]api.Break, 17)
	for _, b := range wildBreaks() {
		wrong(0, []api.Break{b}, api.ErrArg)
		wrong(20, append(slices.Repeat([]api.Break{{Kind: 1}}, 15), b), api.ErrArg)
		wrong(3, []api.Break{b, {}}, api.ErrArg)
		wrong(3, append(many, b), api.ErrMany)
		wrong(21, []api.Break{b}, api.ErrRange)
	}
	for _, lag := range []int{-1, 21, 22, math.MinInt, math.MaxInt} {
		wrong(lag, nil, api.ErrRange)
		wrong(lag, []api.Break{}, api.ErrRange)
		wrong(lag, many, api.ErrRange)
	}
	wrong(0, many, api.ErrMany)
	wrong(20, make([]api.Break, 100000), api.ErrMany)
}

// truth is one with different numbers everywhere.
func truth(changes ...change[api.Truth]) api.Truth {
	return made(api.Truth{
		Value: [5]int64{1000, 2000, -3000, 4000, 5000},
		Error: [3][5]int64{{1, 2, 3, 4, 5}, {-10, -20, -30, -40, -50}, {600, 0, -700, 800, 900}},
		Lie:   [5]int64{-7, 77, 777, -7777, 77777}, Link: 123, Pack: -456, Want: true,
	}, changes)
}

// shows lets a plant show a truth.
func shows(t *testing.T, p *protect.Plant, x api.Truth) api.Signals {
	t.Helper()
	s, e := p.Show(x)
	if e != api.OK {
		t.Fatalf("Show of %v: %d", x, e)
	}
	return s
}

// P5.9: the signals of a plant without faults.
func TestShow(t *testing.T) {
	want := api.Signals{Link: 123, Pack: -456, Want: true}
	for i, v := range [][5]int64{{1001, 2002, -2997, 4004, 5005}, {990, 1980, -3030, 3960, 4950}, {1600, 2000, -3700, 4800, 5900}} {
		want.Channels[i] = api.Channel{Has: true, Value: v}
	}
	for _, l := range [][]api.Break{nil, {}, {{}}, make([]api.Break, 16)} {
		p := newPlant(t, 0, l...)
		if got := shows(t, p, truth()); got != want {
			t.Errorf("Show with %v: %v", l, got)
		}
		for n := range 16 {
			x := truth(func(x *api.Truth) { x.Crash, x.Water, x.Want, x.Reset = n&1 > 0, n&2 > 0, n&4 > 0, n&8 > 0 })
			y := want
			y.Want, y.Reset = x.Want, x.Reset
			if x.Crash {
				y.Crash = wires(0, 1, 2)
			}
			if x.Water {
				y.Water = wires(0, 1, 2)
			}
			if got := shows(t, p, x); got != y {
				t.Errorf("Show of %v: %v", x, got)
			}
		}
	}
}

// P5.9: faults of channels, alone, several of one kind, and together.
func TestFaultsOfChannels(t *testing.T) {
	usual := shows(t, newPlant(t, 0), truth())
	for _, lies := range allThree() {
		for _, silent := range allThree() {
			var lie, quiet []api.Break
			want := usual
			for i := range 3 {
				if lies[i] {
					lie = append(lie, api.Break{Kind: api.BreakLie, A: i})
					want.Channels[i].Value = truth().Lie
				}
				if silent[i] {
					quiet = append(quiet, api.Break{Kind: api.BreakMute, A: i})
					want.Channels[i] = api.Channel{}
				}
			}
			for _, l := range [][]api.Break{slices.Concat(lie, quiet), slices.Concat(quiet, lie), slices.Concat(lie, quiet, lie, quiet, make([]api.Break, 4))} {
				if got := shows(t, newPlant(t, 3, l...), truth()); got != want {
					t.Errorf("Show with %v: %v, not %v", l, got, want)
				}
			}
		}
	}
}

// P5.9: faults of wires; the last one of several counts.
func TestFaultsOfWires(t *testing.T) {
	for a := range 3 {
		for _, values := range [][]bool{{false}, {true}, {true, false}, {false, true}, {true, true, false}, {false, false, true}} {
			var l []api.Break
			for _, b := range values {
				l = append(l, api.Break{Kind: api.BreakWire, A: a, B: b}, api.Break{Kind: api.BreakWire, A: (a + 1) % 3, B: !b})
			}
			last := values[len(values)-1]
			for n := range 4 {
				x := truth(func(x *api.Truth) { x.Crash, x.Water = n&1 > 0, n&2 > 0 })
				want := shows(t, newPlant(t, 0), x)
				want.Crash[a], want.Water[a] = last, last
				want.Crash[(a+1)%3], want.Water[(a+1)%3] = !last, !last
				if got := shows(t, newPlant(t, 0, l...), x); got != want {
					t.Errorf("Show with %v of %t, %t: %v", l, x.Crash, x.Water, got)
				}
			}
		}
	}
}

// numbersOf are all numbers of a truth that have to be quantities, and its errors.
func numbersOf(x *api.Truth) (quantities, errors []*int64) {
	quantities = []*int64{&x.Link, &x.Pack}
	for q := range 5 {
		quantities = append(quantities, &x.Value[q], &x.Lie[q])
		for i := range 3 {
			errors = append(errors, &x.Error[i][q])
		}
	}
	return quantities, errors
}

// edgeTruths are truths that are possible only just, and some that are not by one number.
func edgeTruths() (possible, wrong []api.Truth) {
	add := func(n int, isError bool, number int64, l *[]api.Truth) {
		x := truth()
		quantities, errors := numbersOf(&x)
		if isError {
			*errors[n] = number
		} else {
			*quantities[n] = number
		}
		*l = append(*l, x)
	}
	for n := range 12 {
		for _, sign := range []int64{1, -1} {
			add(n, false, sign*most, &possible)
			add(n, false, sign*(most+1), &wrong)
			add(n, false, sign*math.MaxInt64, &wrong)
		}
		add(n, false, math.MinInt64, &wrong)
	}
	for n := range 15 {
		for _, sign := range []int64{1, -1} {
			add(n, true, sign*most/2, &possible)
			add(n, true, sign*(most/2+1), &wrong)
			add(n, true, sign*math.MaxInt64, &wrong)
		}
		add(n, true, math.MinInt64, &wrong)
	}
	for _, sign := range []int64{1, -1} {
		x := truth()
		quantities, errors := numbersOf(&x)
		for _, n := range quantities {
			*n = sign * most
		}
		for _, n := range errors {
			*n = sign * most / 2
		}
		possible = append(possible, x)
	}
	return possible, wrong
}

// P5.9, P5.10: which truths are possible.
func TestPossibleTruths(t *testing.T) {
	possible, wrong := edgeTruths()
	for _, l := range [][]api.Break{nil, {{Kind: api.BreakMute}, {Kind: api.BreakMute, A: 1}, {Kind: api.BreakMute, A: 2}}, {{Kind: api.BreakLie}}} {
		p := newPlant(t, 2, l...)
		for _, x := range possible {
			if got, want := shows(t, p, x), wantSignals(&plantModel{faults: l}, x); got != want {
				t.Errorf("Show of %v: %v", x, got)
			}
			if out, e := protect.Play(guard(), 2, l, []api.Truth{x, x}); len(out) != 2 || e != api.OK {
				t.Errorf("Play of %v: %v, %d", x, out, e)
			}
		}
		for _, x := range wrong {
			if s, e := p.Show(x); s != (api.Signals{}) || e != api.ErrArg {
				t.Errorf("Show of %v: %v, %d", x, s, e)
			}
			for _, truths := range [][]api.Truth{{x}, {truth(), x}, {x, truth()}} {
				if out, e := protect.Play(guard(), 2, l, truths); len(out) != 0 || e != api.ErrArg {
					t.Errorf("Play of %v: %v, %d", x, out, e)
				}
			}
		}
	}
}

// drive is an act that drives some contactors.
func drive(l ...int) api.Act { return api.Act{Drive: wires(l...)} }

// moved lets a plant move, and checks which contactors are closed then.
func moved(t *testing.T, p *protect.Plant, a api.Act, closed ...int) {
	t.Helper()
	if e := p.Move(a); e != api.OK || p.Closed() != wires(closed...) {
		t.Fatalf("Move with %v: %d, %v, not %v", a, e, p.Closed(), closed)
	}
}

// P5.9: a contactor is closed lag ticks after it is driven, and open lag ticks after it is not.
func TestLag(t *testing.T) {
	for lag := range 21 {
		for a := range 3 {
			p := newPlant(t, lag)
			for range 3 {
				for _, on := range []bool{true, false} {
					act := api.Act{}
					act.Drive[a] = on
					for range lag {
						if on {
							moved(t, p, act)
						} else {
							moved(t, p, act, a)
						}
					}
					for range 25 {
						if on {
							moved(t, p, act, a)
						} else {
							moved(t, p, act)
						}
					}
				}
			}
		}
	}
	for _, lag := range []int{0, 1, 7, 20} { // just one tick
		p := newPlant(t, lag)
		acts := []api.Act{drive(0), drive(1, 2), drive(), drive(0, 1, 2)}
		for i := range lag + 10 {
			act := api.Act{}
			if i < len(acts) {
				act = acts[i]
			}
			p.Move(act)
			want := [3]bool{}
			if i >= lag && i-lag < len(acts) {
				want = acts[i-lag].Drive
			}
			if p.Closed() != want {
				t.Errorf("lag %d, tick %d: %v, not %v", lag, i, p.Closed(), want)
			}
		}
	}
}

// P5.9: the path, by all contactors that may be closed, and the pyro fuse.
func TestPath(t *testing.T) {
	for _, w := range allThree() {
		for _, lag := range []int{0, 2} {
			p := newPlant(t, lag)
			for range lag {
				moved(t, p, api.Act{Drive: w})
				if p.Path() {
					t.Errorf("the path is closed before the lag is over: %v", w)
				}
			}
			p.Move(api.Act{Drive: w})
			if want := w[api.ContactMinus] && (w[api.ContactPlus] || w[api.ContactPre]); p.Closed() != w || p.Path() != want {
				t.Errorf("the path with %v: %t", w, p.Path())
			}
			p.Move(api.Act{Drive: w, Fire: true}) // the fuse has no lag, and contactors are closed all the same
			for range 30 {
				if p.Closed() != w || p.Path() {
					t.Errorf("the path with %v behind the fuse: %v, %t", w, p.Closed(), p.Path())
				}
				p.Move(api.Act{Drive: w})
			}
		}
	}
	early := newPlant(t, 20)
	early.Move(api.Act{Fire: true})
	for range 50 {
		early.Move(drive(0, 1, 2))
	}
	if early.Closed() != wires(0, 1, 2) || early.Path() {
		t.Errorf("a fuse that was fired early: %v, %t", early.Closed(), early.Path())
	}
}

// P5.9: a contactor that is welded closes, and then does not open; others do.
func TestWelded(t *testing.T) {
	for _, lag := range []int{0, 1, 20} {
		for a := range 3 {
			other := (a + 1) % 3
			weld := api.Break{Kind: api.BreakWeld, A: a}
			for _, l := range [][]api.Break{{weld}, {weld, weld}, {{}, weld, {Kind: api.BreakWeld, A: (a + 2) % 3}}} {
				p := newPlant(t, lag, l...)
				for range 30 {
					moved(t, p, drive())
				}
				act := drive(a, other) // for just one tick
				for range lag {
					moved(t, p, act)
					act = drive()
				}
				moved(t, p, act, a, other)
				for range 30 {
					moved(t, p, drive(), a)
				}
			}
		}
	}
	p := newPlant(t, 0, api.Break{Kind: api.BreakWeld, A: api.ContactPlus}, api.Break{Kind: api.BreakWeld, A: api.ContactMinus})
	moved(t, p, drive(api.ContactMinus), api.ContactMinus)
	moved(t, p, drive(api.ContactPlus), api.ContactPlus, api.ContactMinus)
	moved(t, p, drive(), api.ContactPlus, api.ContactMinus)
	if !p.Path() {
		t.Error("the path of two welds is open")
	}
	moved(t, p, api.Act{Fire: true}, api.ContactPlus, api.ContactMinus)
	if p.Path() {
		t.Error("the path of two welds is closed behind the pyro fuse")
	}
}

// P5.9: a contactor that is stuck does not close, also if it would be welded; others do.
func TestStuck(t *testing.T) {
	for _, lag := range []int{0, 1, 20} {
		for a := range 3 {
			weld, stuck := api.Break{Kind: api.BreakWeld, A: a}, api.Break{Kind: api.BreakStuck, A: a}
			for _, l := range [][]api.Break{{stuck}, {stuck, weld}, {weld, stuck}, {stuck, stuck}} {
				p := newPlant(t, lag, l...)
				for range lag {
					moved(t, p, drive(0, 1, 2))
				}
				for range 30 {
					moved(t, p, drive(0, 1, 2), (a+1)%3, (a+2)%3)
				}
			}
		}
	}
}

// P5.9: a report that always shows the same changes no contactor; the last one of several counts.
func TestFaultsOfReports(t *testing.T) {
	for a := range 3 {
		for _, values := range [][]bool{{false}, {true}, {true, false}, {false, true}, {false, false, true}} {
			var l []api.Break
			for _, b := range values {
				l = append(l, api.Break{Kind: api.BreakBack, A: a, B: b}, api.Break{Kind: api.BreakWire, A: a, B: !b})
			}
			p := newPlant(t, 0, l...)
			for _, w := range allThree() {
				p.Move(api.Act{Drive: w})
				want := w
				want[a] = values[len(values)-1]
				if got := shows(t, p, truth()); got.Back != want || p.Closed() != w {
					t.Errorf("with %v, %v closed: %v", l, p.Closed(), got.Back)
				}
			}
		}
	}
	for _, w := range allThree() { // without faults
		p := newPlant(t, 3)
		for i := range 10 {
			if got := shows(t, p, truth()).Back; i <= 3 && got != [3]bool{} || i > 3 && got != w {
				t.Errorf("reported behind %d ticks: %v", i, got)
			}
			p.Move(api.Act{Drive: w})
		}
	}
}

// P5.9: to show something changes nothing, and what is shown depends on this truth only.
func TestShowChangesNothing(t *testing.T) {
	r := chance(59)
	for range 300 {
		lag, l := r.Intn(21), drawBreaks(r)
		p, q := newPlant(t, lag, l...), newPlant(t, lag, l...)
		for range 30 {
			a := drawAct(r)
			for range r.Intn(4) {
				q.Show(drawTruth(r))
				q.Show(api.Truth{Link: math.MaxInt64})
			}
			p.Move(a)
			q.Move(a)
			x := drawTruth(r)
			if p.Closed() != q.Closed() || p.Path() != q.Path() || shows(t, p, x) != shows(t, q, x) {
				t.Fatalf("a plant that has shown something: %v, %t", q.Closed(), q.Path())
			}
		}
	}
}

// drawBreaks draws faults, mostly few.
func drawBreaks(r *rand.Rand) []api.Break {
	var l []api.Break
	for range r.Intn(pick(r, 2, 4, 17)) {
		l = append(l, pick(r, validBreaks()...))
	}
	return l
}

// drawAct draws an act; any contactors may be driven.
func drawAct(r *rand.Rand) api.Act {
	return api.Act{Drive: pick(r, allThree()...), Fire: r.Intn(40) == 0}
}

// drawTruth draws a truth that is possible.
func drawTruth(r *rand.Rand) api.Truth {
	var x api.Truth
	quantities, errors := numbersOf(&x)
	for _, n := range quantities {
		*n = max(-most, min(most, drawNumber(r)))
	}
	for _, n := range errors {
		*n = max(-most/2, min(most/2, drawNumber(r)))
	}
	x.Crash, x.Water, x.Want, x.Reset = likely(r, 50), likely(r, 50), likely(r, 50), likely(r, 50)
	return x
}

// P5.8, P5.9: drawn plants, by the chapter's description; now and then the plant is a copy.
func TestDrawnPlants(t *testing.T) {
	r := chance(58)
	for range 1500 {
		lag, l := pick(r, 0, 1, 2, 20, r.Intn(21)), drawBreaks(r)
		p, want := newPlant(t, lag, l...), plantModel{lag: lag, faults: l}
		for range 60 {
			if r.Intn(20) == 0 {
				p = p.Copy()
			}
			x := drawTruth(r)
			if got := shows(t, p, x); got != wantSignals(&want, x) {
				t.Fatalf("Show of %v with %v: %v", x, l, got)
			}
			a := drawAct(r)
			want.move(a)
			if e := p.Move(a); e != api.OK || p.Closed() != want.closed || p.Path() != want.path() {
				t.Fatalf("Move with %v, lag %d, %v: %d, %v, %t, not %v", a, lag, l, e, p.Closed(), p.Path(), want.closed)
			}
		}
	}
}

// P5.8, R4: copies of plants go on by themselves, as the original does.
func TestCopiesOfPlants(t *testing.T) {
	r := chance(85)
	for range 300 {
		p := newPlant(t, r.Intn(21), drawBreaks(r)...)
		for range r.Intn(50) {
			p.Move(drawAct(r))
		}
		a, b := p.Copy(), p.Copy()
		var acts []api.Act
		var signals []api.Signals
		var paths []bool
		for range 45 {
			act := drawAct(r)
			a.Move(act)
			acts, signals, paths = append(acts, act), append(signals, shows(t, a, truth())), append(paths, a.Path())
		}
		for name, x := range map[string]*protect.Plant{"the original": p, "the copy of a copy": b.Copy()} {
			for i, act := range acts {
				if e := x.Move(act); e != api.OK || shows(t, x, truth()) != signals[i] || x.Path() != paths[i] {
					t.Fatalf("%s, move %d: %d", name, i, e)
				}
			}
		}
	}
}
