package update_test

import (
	"math/rand"
	"slices"
	"testing"

	"coulomb/api"
)

// mood is how a twin lives: of how many ticks there is one with each of these.
type mood struct {
	fails int // a controller loses its power
	back  int // it gets its power back
	hot   int // it is hot for a while
	noise int // something else happens to the signals
	wrong int // a block, or an image, is wrong
	wild  int // an argument is wild
}

// moods are ways in which twins live.
func moods() []mood {
	return []mood{
		{fails: 1 << 30, back: 1, hot: 1 << 30, noise: 1 << 30, wrong: 1 << 30, wild: 200}, // all goes well
		{fails: 1 << 30, back: 1, hot: 20, noise: 60, wrong: 8, wild: 100},                 // without loss of power
		{fails: 40, back: 3, hot: 1 << 30, noise: 1 << 30, wrong: 1 << 30, wild: 200},      // the power is lost now and then
		{fails: 12, back: 2, hot: 30, noise: 60, wrong: 10, wild: 100},                     // and often
		{fails: 5, back: 2, hot: 20, noise: 20, wrong: 5, wild: 50},                        // all goes wrong
		{fails: 25, back: 1, hot: 50, noise: 1 << 30, wrong: 1 << 30, wild: 200},           // and is soon back
	}
}

// life is a twin that lives, and what it is offered.
type life struct {
	twoTwins
	r     *rand.Rand
	how   mood
	heat  int   // for how many ticks it is hot
	temp  int64 // how hot it is then
	image [2]api.Image
	text  [2]string
	acts  api.Act
	alive bool // one of both always runs
}

// newLife makes a twin that lives.
func newLife(t *testing.T, r *rand.Rand, how mood) *life {
	t.Helper()
	return &life{twoTwins: newTwins(t, hot(drawHot(r)), debounce(1+r.Intn(4))), r: r, how: how}
}

// drawHot draws which temperature is too hot.
func drawHot(r *rand.Rand) int64 { return pick[int64](r, 310000, 320000, 330000) }

// one reports whether one of n times has come.
func (x *life) one(n int) bool { return x.r.Intn(n) == 0 }

// signals draws the signals of a tick: the contactors are as they were driven in the last one.
func (x *life) signals() api.Signals {
	b := beat()
	b.Signals.Back = x.acts.Drive
	tries := x.m.sides[0].tries() || x.m.sides[1].tries()
	if x.one(x.how.hot) || tries && x.how.hot < 100 && x.one(9) { // what is tried has to be compared
		x.heat, x.temp = 1+x.r.Intn(6), pick[int64](x.r, 315000, 325000, 335000)
	}
	if x.heat > 0 {
		x.heat--
		temp(x.temp)(&b)
	}
	s := b.Signals
	s.Reset = x.heat == 0 && x.one(3)
	if x.one(x.how.noise) {
		switch x.r.Intn(6) {
		case 0:
			s.Want = false
		case 1:
			s.Crash = [3]bool{true, true, false}
		case 2:
			s.Channels[x.r.Intn(3)] = api.Channel{}
		case 3:
			s.Link = 0
		case 4:
			s.Back = [3]bool{x.one(2), x.one(2), x.one(2)}
		case 5:
			s.Channels[x.r.Intn(3)].Value[x.r.Intn(5)] += 1000000
		}
	}
	return s
}

// beat draws what a tick gets.
func (x *life) beat() api.Beat {
	b := api.Beat{Signals: x.signals()}
	for i := range 2 {
		b.Fail[i] = x.one(x.how.fails)
		b.Back[i] = x.one(x.how.back)
	}
	if x.one(6 * x.how.fails) {
		b.Fail = [2]bool{true, true}
	}
	for i := range 2 {
		if x.alive && (!x.m.sides[1-i].runs() || b.Fail[1-i]) {
			b.Fail[i] = false
		}
	}
	if x.one(2) || b.Fail != [2]bool{} {
		b.Mask = drawMask(x.r)
	}
	return b
}

// drawImage draws an image for a controller, which is wrong now and then.
func (x *life) drawImage(i int) {
	text := textOf(guard(hot(drawHot(x.r)), debounce(1+x.r.Intn(4))))
	if x.one(x.how.wrong) {
		text = pick(x.r, text+" ", "hello", text[:20], string(drawBytes(x.r, mostSize)))
	}
	im := imageOf(x.m.sides[i].version()+1+x.r.Intn(3), key, text)
	if x.one(x.how.wrong) {
		im = pick(x.r, with(im, func(im *api.Image) { im.Seal = 1 }), with(im, func(im *api.Image) { im.Version = x.r.Intn(4) }), with(im, func(im *api.Image) { im.Size += 8 }))
	}
	x.image[i], x.text[i] = im, text
}

// host does something for the firmware of a controller.
func (x *life) host(i int) {
	s := x.m.sides[i]
	switch {
	case x.one(x.how.wild):
		x.doWild(i)
	case s.loads && x.one(2):
		x.giveBlock(i)
	case !s.loads && x.one(12):
		if x.image[i].Size == 0 || x.one(3) {
			x.drawImage(i)
		}
		x.offer(i, x.image[i])
	case x.one(20):
		x.switches(i)
	}
}

// giveBlock gives a block to a controller: mostly one that is missing.
func (x *life) giveBlock(i int) {
	l := blocksOf(x.text[i])
	k := x.r.Intn(max(1, len(l)))
	s := x.m.sides[i]
	for range 3 {
		if missing := s.f.look(s.other()).Missing; len(missing) > 0 && x.one(2) {
			k = pick(x.r, missing...)
		}
		b := make([]byte, 8)
		if k < len(l) {
			b = slices.Clone(l[k])
		}
		if x.one(10 * x.how.wrong) {
			b[x.r.Intn(8)]++
		}
		x.block(i, k, b)
		k++
	}
}

// doWild does something with arguments that need not be possible.
func (x *life) doWild(i int) {
	switch x.r.Intn(4) {
	case 0:
		x.offer(i, pick(x.r, append(wildImages(), x.image[i])...))
	case 1:
		x.block(i, pick(x.r, append(wildInts(), 0, 5)...), drawBytes(x.r, x.r.Intn(10)))
	case 2:
		x.switches(i)
	case 3:
		wild := pick(x.r, append(wildInts(), 2)...)
		x.offer(wild, x.image[i])
		x.block(wild, 0, eight(0))
		x.switches(wild)
	}
}

// live lets a tick pass, and what happens before it.
func (x *life) live() {
	x.t.Helper()
	for i := range 2 {
		x.host(i)
	}
	x.acts = x.tick(x.beat())
}

// P10.9 to P10.14: twins to which anything happens.
func TestDrawnTwins(t *testing.T) {
	r := chance(30)
	happened := map[string]int{}
	for run := range 72 {
		x := newLife(t, r, moods()[run%6])
		for n := range 500 {
			x.live()
			if n%50 == 0 {
				x.checkMachines(slices.Repeat([]api.Signals{beat(temp(325000)).Signals}, 10)...)
				x.checkMachines(slices.Repeat([]api.Signals{beat(temp(335000), open).Signals}, 10)...)
			}
		}
		for _, s := range x.m.sides {
			for what, n := range s.happened {
				happened[what] += n
			}
		}
	}
	for _, what := range []string{"reject", "reject in charge", "trial", "confirm", "ready", "wrong", "resume", "cut", "block again", "new machine"} {
		if happened[what] < 5 {
			t.Errorf("%s has happened %d times", what, happened[what])
		}
	}
}

// P10.9, R4: copies of twins, to which anything happens, too.
func TestDrawnCopies(t *testing.T) {
	r := chance(31)
	for run := range 20 {
		x := newLife(t, r, moods()[run%6])
		var kept []twoTwins
		for range 200 {
			x.live()
			if x.one(40) {
				kept = append(kept, x.clone())
			}
			if len(kept) > 0 && x.one(40) { // a copy goes on, and the original is kept
				c := x.twoTwins
				i := r.Intn(len(kept))
				x.twoTwins, kept[i] = kept[i], c
			}
		}
		for _, c := range kept {
			c.check()
		}
	}
}
