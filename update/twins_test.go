package update_test

import (
	"math"
	"slices"
	"testing"

	"coulomb/api"
	"coulomb/protect"
	"coulomb/update"
)

// beat are good signals of a pack whose contactors are closed, changed.
func beat(changes ...change[api.Beat]) api.Beat {
	b := api.Beat{Signals: api.Signals{Link: 400000000, Pack: 400000000, Want: true, Back: [3]bool{true, true, false}}}
	for i := range b.Signals.Channels {
		b.Signals.Channels[i] = api.Channel{Has: true, Value: [5]int64{4000000, 3900000, 0, 300000, 500000}}
	}
	return with(b, changes...)
}

// temp changes the temperature.
func temp(x int64) change[api.Beat] {
	return func(b *api.Beat) {
		for i := range b.Signals.Channels {
			b.Signals.Channels[i].Value[api.VoteTemp] = x
		}
	}
}

// fail and back change which controllers lose their power, and get it back.
func fail(l ...int) change[api.Beat] {
	return func(b *api.Beat) {
		for _, i := range l {
			b.Fail[i] = true
		}
	}
}
func back(l ...int) change[api.Beat] {
	return func(b *api.Beat) {
		for _, i := range l {
			b.Back[i] = true
		}
	}
}

// mask changes the mask.
func mask(m ...byte) change[api.Beat] { return func(b *api.Beat) { b.Mask = m } }

// open changes the signals to those of a pack whose contactors are open, and want to be.
func open(b *api.Beat)  { b.Signals.Back = [3]bool{} }
func idle(b *api.Beat)  { b.Signals.Want = false }
func reset(b *api.Beat) { b.Signals.Reset = true }

// driven is the act with closed contactors.
var driven = api.Act{Drive: [3]bool{true, true, false}}

// run lets some ticks pass.
func (x twoTwins) run(n int, changes ...change[api.Beat]) {
	x.t.Helper()
	for range n {
		x.tick(beat(changes...))
	}
}

// closes makes a twin whose contactors are closed.
func closes(t *testing.T, changes ...change[api.Guard]) twoTwins {
	t.Helper()
	x := newTwins(t, changes...)
	x.run(2, open)
	same(t, x.tick(beat()), driven, "the act")
	return x
}

// states are what is seen of both controllers: phases, versions and who is in charge.
type states struct {
	phases, versions [2]int
	charge           int
}

// see checks what is seen.
func (x twoTwins) see(want states, about ...any) {
	x.t.Helper()
	w := x.w
	same(x.t, states{[2]int{w.Phase(0), w.Phase(1)}, [2]int{w.Version(0), w.Version(1)}, w.Charge()}, want, about...)
}

const (
	off  = api.TwinOff
	boot = api.TwinBoot
	runs = api.TwinRun
)

// begin offers an image with a text, and lets ticks pass until blocks can be written.
func (x twoTwins) begin(i int, im api.Image, changes ...change[api.Beat]) {
	x.t.Helper()
	same(x.t, x.offer(i, im), api.OK, "Offer", im)
	for n := 0; len(x.m.sides[i].values) > 0 || len(x.m.sides[i].pages) > 0 || x.m.sides[i].f.what(x.m.sides[i].other(), 1) != api.RecordGood; n++ {
		if n > 100 {
			x.t.Fatalf("the controller %d does not begin", i)
		}
		x.run(1, changes...)
	}
}

// blocks writes blocks, from one of them to before another one, one a tick.
func (x twoTwins) blocks(i int, text string, from, to int, changes ...change[api.Beat]) {
	x.t.Helper()
	for k, b := range blocksOf(text) {
		if k >= from && k < to {
			same(x.t, x.block(i, k, b), api.OK, "Block", k)
			x.run(1, changes...)
		}
	}
}

// loads lets a controller load an image completely.
func (x twoTwins) loads(i, version int, g api.Guard, changes ...change[api.Beat]) {
	x.t.Helper()
	text := textOf(g)
	x.begin(i, imageOf(version, key, text), changes...)
	x.blocks(i, text, 0, mostBlocks, changes...)
	x.run(2, changes...)
	same(x.t, x.w.Switch(i^2), api.ErrRange, "Switch of no controller")
	s, e := update.Look(x.w.Flash(i), x.m.sides[i].other())
	same(x.t, s.Ready, true, "Ready", e, s)
}

// starts switches a controller to its other image, and lets the ticks pass in which it starts.
func (x twoTwins) starts(i int, changes ...change[api.Beat]) {
	x.t.Helper()
	same(x.t, x.switches(i), api.OK, "Switch")
	x.run(bootTicks, changes...)
	same(x.t, x.w.Phase(i), runs, "Phase")
}

// logged checks the log of a controller, but for what is not written yet.
func (x twoTwins) logged(i int, want ...uint32) {
	x.t.Helper()
	l, e := update.Lines(x.w.Flash(i), 0, 4)
	var values []uint32
	for _, line := range l {
		values = append(values, line.Value)
	}
	sameList(x.t, values, want, "the log of", i, e)
}

// slot is what can be read of a slot of a controller.
func (x twoTwins) slot(i, first int) api.Slot {
	x.t.Helper()
	s, e := update.Look(x.w.Flash(i), first)
	same(x.t, e, api.OK, "Look")
	return s
}

// value is what is logged.
func value(code uint32, n int) uint32 { return code<<24 + uint32(n) }

// wildGuards are guards that are not valid.
func wildGuards() []api.Guard {
	return []api.Guard{{}, guard(hot(-1)), guard(hot(quantities + 1)), guard(debounce(0)), guard(debounce(101)), guard(func(g *api.Guard) { g.PrePart = 0 }), guard(func(g *api.Guard) { g.Leak = -1 })}
}

// P10.9
func TestNewTwin(t *testing.T) {
	for _, g := range append(wildGuards(), guard()) {
		for _, key := range []uint64{0, prime, prime + 1, prime + key, 1 << 32, 1<<32 + key, math.MaxUint64, key} {
			if g == guard() && key == 7 {
				continue
			}
			w, e := update.NewTwin(g, key)
			same(t, w, nil, "NewTwin", g, key)
			same(t, e, api.ErrArg, "NewTwin", g, key)
		}
	}
	for _, key := range []uint64{1, 2, sealing, prime - 1} {
		for _, g := range []api.Guard{guard(), guard(hot(quantities)), guard(hot(0), debounce(100))} {
			x := twoTwins{t, newTwin(t, g, key), newTwinModel(g, key)}
			x.check()
			x.see(states{[2]int{runs, runs}, [2]int{1, 1}, 0}, "a new twin")
			for i := range 2 {
				f := x.w.Flash(i)
				same(t, f.Pages(), 18, "Pages")
				got, can, e := update.Guard(f, slot0, key)
				same(t, got, g, "Guard", can, e)
				s := x.slot(i, slot0)
				sameSlot(t, s, api.Slot{Set: true, Image: imageOf(1, key, textOf(g)), Ready: true, Good: true}, "the slot 0")
				sameSlot(t, x.slot(i, slot1), api.Slot{}, "the slot 1")
				x.logged(i)
				same(t, stateOf(x.w.Machine(i)), machineState{}, "the machine")
			}
			x.run(3)
		}
	}
}

// P10.10, R1
func TestErrorsOfTick(t *testing.T) {
	x := closes(t)
	for _, n := range []int64{quantities + 1, -quantities - 1, 1 << 62, math.MinInt64, math.MaxInt64} {
		for _, b := range []api.Beat{
			beat(fail(0), func(b *api.Beat) { b.Signals.Link = n }),
			beat(back(1), func(b *api.Beat) { b.Signals.Pack = n }),
			beat(fail(0, 1), mask(make([]byte, 129)...), func(b *api.Beat) { b.Signals.Pack = n }),
		} {
			same(t, answerOf(x.w.Tick(b)), bad[api.Act](api.ErrArg), "Tick", n)
			x.check()
		}
	}
	for _, n := range []int{129, 1000} {
		for _, c := range []change[api.Beat]{fail(), fail(0), back(1)} {
			same(t, answerOf(x.w.Tick(beat(c, mask(make([]byte, n)...)))), bad[api.Act](api.ErrLong), "Tick", n)
			x.check()
		}
	}
	for _, n := range []int64{quantities, -quantities} { // at the bound
		x.run(1, mask(make([]byte, 128)...), func(b *api.Beat) { b.Signals.Link = n })
		x.run(1, func(b *api.Beat) { b.Signals.Pack = n })
	}
}

// P10.14: what there is of no controller.
func TestNoController(t *testing.T) {
	x := closes(t)
	for _, i := range append(wildInts(), 2, 3) {
		same(t, x.w.Phase(i), 0, "Phase", i)
		same(t, x.w.Version(i), 0, "Version", i)
		same(t, x.w.Machine(i), nil, "Machine", i)
		same(t, x.w.Flash(i), nil, "Flash", i)
		same(t, x.w.Offer(i, api.Image{}), api.ErrRange, "Offer", i)
		same(t, x.w.Block(i, -1, nil), api.ErrRange, "Block", i)
		same(t, x.w.Switch(i), api.ErrRange, "Switch", i)
		x.check()
	}
}

// P10.11 to P10.14: a controller that does not run.
func TestControllersThatDoNotRun(t *testing.T) {
	for i := range 2 {
		x := closes(t)
		x.loads(i, 3, guard())
		x.run(1, fail(i))
		for n := range 7 {
			for range 2 {
				same(t, x.offer(i, api.Image{}), api.ErrState, "Offer", n)
				same(t, x.block(i, -1, nil), api.ErrState, "Block", n)
				same(t, x.switches(i), api.ErrState, "Switch", n)
				same(t, x.switches(1-i), api.ErrBusy, "Switch of the other one", n)
			}
			same(t, x.w.Version(i), 0, "Version")
			same(t, x.w.Machine(i), nil, "Machine")
			if n < 2 {
				x.run(3)
				same(t, x.w.Phase(i), off, "Phase")
			} else if n < 6 {
				x.run(1, back(i))
				same(t, x.w.Phase(i), boot, "Phase")
			}
		}
		x.run(1)
		same(t, x.w.Phase(i), runs, "Phase")
		same(t, x.w.Version(i), 3, "Version")
	}
}

// P10.11, R1: the errors of Offer, in their order.
func TestErrorsOfOffer(t *testing.T) {
	x := closes(t)
	text := textOf(guard())
	x.loads(0, 1000, guard())
	wild := func() {
		t.Helper()
		for _, im := range wildImages() {
			same(t, x.offer(0, im), api.ErrRange, "Offer", im)
		}
	}
	wild()
	x.starts(0)
	wild()
	for _, version := range []int{1, 2, 999, 1000} {
		same(t, x.offer(0, imageOf(version, key, text)), api.ErrOld, "Offer", version)
	}
	for _, version := range []int{1001, mostVersion} {
		same(t, x.offer(0, imageOf(version, key, text)), api.ErrBusy, "Offer while it tries", version)
	}
	same(t, x.offer(1, imageOf(1, key, text)), api.ErrOld, "Offer")
	same(t, x.offer(1, imageOf(2, key, text)), api.OK, "Offer")
	x.run(shadowTicks)
	same(t, x.offer(0, imageOf(1000, key, text)), api.ErrOld, "Offer")
	for _, im := range []api.Image{{Version: 1001, Size: mostSize, Seal: mostSeal}, {Version: mostVersion, Size: 1, Seal: 0}} {
		c := x.clone()
		same(t, c.offer(0, im), api.OK, "Offer")
		same(t, c.offer(0, im), api.ErrBusy, "Offer while it loads")
		same(t, c.offer(0, imageOf(1000, key, text)), api.ErrOld, "Offer of an old one while it loads")
		same(t, c.offer(0, api.Image{}), api.ErrRange, "Offer of a wrong one while it loads")
		c.run(30)
		same(t, c.offer(0, im), api.ErrBusy, "Offer while it loads")
	}
}

// P10.12, R1: the errors of Block, in their order.
func TestErrorsOfBlock(t *testing.T) {
	x := closes(t)
	text := textOf(guard()) // 105 bytes
	last := (len(text) - 1) / 8
	same(t, x.block(0, -1, nil), api.ErrNone, "Block without a load")
	same(t, x.offer(0, imageOf(2, key, text)), api.OK, "Offer")
	same(t, x.block(1, 0, nil), api.ErrNone, "Block of the other controller")
	for n := range 1 + 7 + 2 { // LogOffer, seven pages, two records
		same(t, x.block(0, -1, nil), api.ErrBusy, "Block", n)
		same(t, x.block(0, 0, eight(1)), api.ErrBusy, "Block", n)
		x.run(1)
	}
	for _, k := range append(wildInts(), last+1, mostBlocks-1, mostBlocks) {
		for _, n := range []int{0, 8} {
			same(t, x.block(0, k, make([]byte, n)), api.ErrRange, "Block", k)
		}
	}
	for i := range mostQueue {
		for _, n := range []int{0, 1, 7, 9, 1000} {
			same(t, x.block(0, i%2*last, make([]byte, n)), api.ErrArg, "Block of bytes", n)
		}
		same(t, x.block(0, last, eight(byte(i))), api.OK, "Block", i)
	}
	same(t, x.block(0, last, eight(0)), api.ErrFull, "Block")
	same(t, x.block(0, last, make([]byte, 7)), api.ErrArg, "Block")
	same(t, x.block(0, last+1, eight(0)), api.ErrRange, "Block")
	x.run(1)
	same(t, x.block(0, last, eight(0)), api.OK, "Block")
	same(t, x.block(0, last, eight(0)), api.ErrFull, "Block")
	b, _, e := x.w.Flash(0).Read(slot1+1+last/8, last%8)
	sameList(t, b, eight(0), "the first one of the blocks", e)
	x.run(1) // all others are taken away
	for range mostQueue {
		same(t, x.block(0, 0, eight(0)), api.OK, "Block")
	}
}

// P10.13, R1: the errors of Switch.
func TestErrorsOfSwitch(t *testing.T) {
	x := closes(t)
	same(t, x.switches(0), api.ErrNone, "Switch without another image")
	x.loads(0, 5, guard())
	x.loads(1, 5, guard())
	x.starts(1)
	same(t, x.switches(0), api.ErrBusy, "Switch while the other one tries")
	same(t, x.switches(1), api.ErrNone, "Switch back")
	x.run(shadowTicks - 1)
	same(t, x.switches(0), api.ErrBusy, "Switch while the other one tries")
	x.run(1)
	c := x.clone()
	c.run(1, fail(1))
	same(t, c.switches(0), api.ErrBusy, "Switch while the other one does not run")
	same(t, c.switches(1), api.ErrState, "Switch of what does not run")
	same(t, x.switches(0), api.OK, "Switch")
	same(t, x.switches(0), api.ErrState, "Switch again")
	same(t, x.switches(1), api.ErrBusy, "Switch of the other one")
}

// P10.11 to P10.13: an update, tick by tick.
func TestUpdate(t *testing.T) {
	x := closes(t)
	text := textOf(guard(hot(320000)))
	im := imageOf(0x1234567, key, text)
	same(t, x.offer(0, im), api.OK, "Offer")
	x.logged(0)
	x.run(1)
	offered := value(api.LogOffer, 0x234567)
	x.logged(0, offered)
	x.run(6)
	sameSlot(t, x.slot(0, slot1), api.Slot{}, "a slot that is being erased")
	x.run(1)
	f := x.w.Flash(0)
	_, what, _ := f.Read(slot1, 0)
	same(t, what, api.RecordBlank, "the record 0")
	x.run(1)
	b, what, _ := x.w.Flash(0).Read(slot1, 0)
	sameList(t, b, []byte{1, 0x23, 0x45, 0x67, 0, byte(len(text)), 0, 0}, "the record 0", what)
	x.run(1)
	b, what, _ = x.w.Flash(0).Read(slot1, 1)
	sameList(t, b, sealBytes(im), "the record 1", what)
	same(t, x.slot(0, slot1).Set, true, "Set")
	last := (len(text) - 1) / 8
	for k := last; k >= 0; k-- {
		x.run(1) // nothing waits
		same(t, len(x.slot(0, slot1).Missing), k+1, "how many blocks are missing")
		x.blocks(0, text, k, k+1)
	}
	same(t, len(x.slot(0, slot1).Missing), 0, "how many blocks are missing")
	same(t, x.slot(0, slot1).Ready, false, "Ready")
	same(t, x.switches(0), api.ErrNone, "Switch")
	x.run(1)
	same(t, x.slot(0, slot1).Ready, true, "Ready")
	x.logged(0, offered)
	x.run(1)
	ready := value(api.LogReady, 0x234567)
	x.logged(0, offered, ready)
	same(t, x.block(0, 0, eight(0)), api.ErrNone, "Block behind the last one")
	x.run(3)
	x.see(states{[2]int{runs, runs}, [2]int{1, 1}, 0}, "before the switch")
	same(t, x.switches(0), api.OK, "Switch")
	x.see(states{[2]int{boot, runs}, [2]int{0, 1}, 1}, "behind the switch")
	for range bootTicks - 1 {
		same(t, x.tick(beat()), driven, "the act")
		x.see(states{[2]int{boot, runs}, [2]int{0, 1}, 1}, "while it starts")
	}
	same(t, x.slot(0, slot1).Trials, 0, "Trials")
	x.run(1)
	x.see(states{[2]int{runs, runs}, [2]int{0x1234567, 1}, 1}, "when it has started")
	same(t, x.slot(0, slot1).Trials, 1, "Trials")
	x.logged(0, offered, ready)
	x.run(1)
	x.logged(0, offered, ready, value(api.LogBoot, 0x234567))
	x.run(shadowTicks - 2)
	same(t, x.slot(0, slot1).Good, false, "Good")
	x.run(1)
	same(t, x.slot(0, slot1).Good, true, "Good")
	x.logged(0, offered, ready, value(api.LogBoot, 0x234567))
	x.run(1)
	x.logged(0, offered, ready, value(api.LogBoot, 0x234567), value(api.LogGood, 0x234567))
	x.logged(1)
	x.see(states{[2]int{runs, runs}, [2]int{0x1234567, 1}, 1}, "in the end")
	x.run(5)
	sameList(t, rawOf(t, x.w.Flash(0), 1), filled(pageBytes, 255), "the second page of the log")
}

// P10.10: the order in which an image is erased and written.
func TestOrderOfErasures(t *testing.T) {
	x := closes(t)
	x.loads(0, 3, guard())
	s := x.slot(0, slot1)
	same(t, s.Ready && s.Set && len(s.Missing) == 0, true, "whether there is an image", s)
	same(t, x.offer(0, api.Image{Version: 2, Size: mostSize, Seal: 1}), api.OK, "Offer")
	x.run(1) // it is logged
	for p := range 7 {
		x.run(1)
		for i := range 7 {
			page := []int{1, 2, 3, 4, 5, 6, 0}[i]
			isBlank := slices.Equal(rawOf(t, x.w.Flash(0), slot1+page), filled(pageBytes, 255))
			wasBlank := page > 2 // the image had 14 blocks
			same(t, isBlank, i <= p || wasBlank, "whether the page is blank", page, p)
		}
	}
}

// P10.10: a slot that is complete, but wrong.
func TestWrongImages(t *testing.T) {
	text := textOf(guard())
	for _, b := range []string{text[:len(text)-1] + "1", "hello", text + " "} {
		im := imageOf(5, key, text)
		if b[0] == 'h' || len(b) > len(text) { // no guard, but with its seal
			im = imageOf(5, key, b)
		}
		x := closes(t)
		x.begin(0, im)
		x.blocks(0, b, 0, mostBlocks)
		x.run(1)
		same(t, x.slot(0, slot1).Ready, false, "Ready")
		x.logged(0, value(api.LogOffer, 5))
		same(t, x.block(0, 0, eight(0)), api.ErrNone, "Block")
		same(t, x.switches(0), api.ErrNone, "Switch")
		x.run(1)
		x.logged(0, value(api.LogOffer, 5), value(api.LogWrong, 5))
		x.loads(0, 5, guard())
		x.starts(0)
		same(t, x.w.Version(0), 5, "Version")
	}
}

// P10.10, P10.12: blocks wait, and are written one a tick; those that are there already take no tick.
func TestBlocksThatAreThere(t *testing.T) {
	x := closes(t)
	text := textOf(guard(hot(321000)))
	l := blocksOf(text)
	x.begin(1, imageOf(2, key, text))
	for k := range 8 {
		same(t, x.block(1, k, l[k]), api.OK, "Block")
	}
	for k := range 8 {
		same(t, len(x.slot(1, slot1).Missing), len(l)-k, "how many blocks are missing")
		x.run(1)
	}
	x.run(5)
	for _, k := range []int{0, 1, 0, 2, 8, 7, 3, 9} {
		same(t, x.block(1, k, l[k]), api.OK, "Block")
	}
	x.run(1)
	same(t, x.slot(1, slot1).Missing[0], 9, "the first block that is missing")
	x.run(1)
	same(t, x.slot(1, slot1).Missing[0], 10, "the first block that is missing")
	x.blocks(1, text, 10, len(l))
	for _, k := range []int{0, len(l) - 1} { // others bytes are not written
		same(t, x.block(1, k, filled(8, 1)), api.OK, "Block")
	}
	x.run(1)
	same(t, x.slot(1, slot1).Ready, true, "Ready")
	x.run(3)
	x.starts(1)
	same(t, x.w.Version(1), 2, "Version")
}

// P10.10: what is logged when a machine trips, of both controllers.
func TestTrips(t *testing.T) {
	x := closes(t)
	for n := range 3 {
		x.run(3, temp(330001))
		x.run(10, temp(330001), open)
		x.run(1, idle, open, reset)
		x.run(2, idle, open)
		for i := range 2 {
			x.logged(i, slices.Repeat([]uint32{value(api.LogTrip, api.CauseHot)}, n+1)...)
		}
		x.run(2, open)
		x.run(1)
	}
	x.run(1, func(b *api.Beat) { b.Signals.Crash = [3]bool{true, true, true} })
	hot := value(api.LogTrip, api.CauseHot)
	x.logged(0, hot, hot, hot, value(api.LogTrip, api.CauseCrash)) // it is appended in the same tick
}

// P10.10: the log of a controller goes on for ever.
func TestLogsOfControllers(t *testing.T) {
	x := closes(t)
	x.run(3, temp(330001))
	x.run(5, temp(330001), open, idle)
	for range 60 {
		x.run(1, open, idle, reset)
		x.run(3, open, idle, temp(330001))
	}
	l, e := update.Lines(x.w.Flash(1), 0, 4)
	same(t, newestOf(l).Number, 61, "the number of the newest line", e)
	same(t, len(l) >= 25 && len(l) <= 32, true, "how many lines there are", len(l))
}

// P10.10: who is in charge.
func TestCharge(t *testing.T) {
	x := closes(t)
	for _, s := range []struct {
		c    change[api.Beat]
		want states
		act  api.Act
	}{
		{fail(1), states{[2]int{runs, off}, [2]int{1, 0}, 0}, driven},
		{back(1), states{[2]int{runs, boot}, [2]int{1, 0}, 0}, driven},
		{back(1), states{[2]int{runs, boot}, [2]int{1, 0}, 0}, driven},
		{back(0), states{[2]int{runs, boot}, [2]int{1, 0}, 0}, driven},
		{fail(), states{[2]int{runs, boot}, [2]int{1, 0}, 0}, driven},
		{fail(), states{[2]int{runs, runs}, [2]int{1, 1}, 0}, driven},
		{fail(0), states{[2]int{off, runs}, [2]int{0, 1}, 1}, driven}, // at once the other one
		{fail(0), states{[2]int{off, runs}, [2]int{0, 1}, 1}, driven},
		{back(0), states{[2]int{boot, runs}, [2]int{0, 1}, 1}, driven},
		{fail(), states{[2]int{boot, runs}, [2]int{0, 1}, 1}, driven},
		{fail(), states{[2]int{boot, runs}, [2]int{0, 1}, 1}, driven},
		{fail(), states{[2]int{boot, runs}, [2]int{0, 1}, 1}, driven},
		{fail(), states{[2]int{runs, runs}, [2]int{1, 1}, 1}, driven}, // it stays in charge
		{fail(), states{[2]int{runs, runs}, [2]int{1, 1}, 1}, driven},
		{fail(0, 1), states{[2]int{off, off}, [2]int{0, 0}, -1}, api.Act{}},
		{fail(), states{[2]int{off, off}, [2]int{0, 0}, -1}, api.Act{}},
		{back(1), states{[2]int{off, boot}, [2]int{0, 0}, -1}, api.Act{}},
		{back(0), states{[2]int{boot, boot}, [2]int{0, 0}, -1}, api.Act{}},
		{fail(), states{[2]int{boot, boot}, [2]int{0, 0}, -1}, api.Act{}},
		{fail(), states{[2]int{boot, boot}, [2]int{0, 0}, -1}, api.Act{}},
		{fail(), states{[2]int{boot, runs}, [2]int{0, 1}, -1}, api.Act{}},
		{open, states{[2]int{runs, runs}, [2]int{1, 1}, 1}, api.Act{Drive: [3]bool{false, true, true}}},
		{open, states{[2]int{runs, runs}, [2]int{1, 1}, 1}, driven},
		{fail(1), states{[2]int{runs, off}, [2]int{1, 0}, 0}, driven}, // the machine of 0 was that of 1
		{fail(0), states{[2]int{off, off}, [2]int{0, 0}, -1}, api.Act{}},
		{back(0, 1), states{[2]int{boot, boot}, [2]int{0, 0}, -1}, api.Act{}},
		{fail(), states{[2]int{boot, boot}, [2]int{0, 0}, -1}, api.Act{}},
		{fail(), states{[2]int{boot, boot}, [2]int{0, 0}, -1}, api.Act{}},
		{fail(), states{[2]int{boot, boot}, [2]int{0, 0}, -1}, api.Act{}},
		{fail(), states{[2]int{runs, runs}, [2]int{1, 1}, -1}, api.Act{}},
		{open, states{[2]int{runs, runs}, [2]int{1, 1}, 0}, api.Act{Drive: [3]bool{false, true, true}}},
	} {
		act := x.tick(beat(s.c))
		x.see(s.want)
		same(t, act, s.act, "the act")
	}
}

// P10.10: power that fails while a controller starts, and that is back and fails at once.
func TestPower(t *testing.T) {
	for n := range 8 { // in which tick of the start it fails
		x := closes(t)
		x.run(1, fail(1))
		x.run(1, back(1))
		for range n {
			x.run(1)
		}
		if x.run(1, fail(1)); x.w.Phase(1) != off {
			t.Fatalf("a controller that fails is %d", x.w.Phase(1))
		}
		x.run(3, back(1), fail(1))
		same(t, x.w.Phase(1), off, "Phase")
		x.run(1, back(1))
		for range bootTicks - 1 {
			same(t, x.w.Phase(1), boot, "Phase", n)
			x.run(1)
		}
		same(t, x.w.Phase(1), runs, "Phase", n)
	}
}

// P10.10: a flash is down only if an operation of it was cut, and is started when the power is back.
func TestFlashOfAControllerThatFails(t *testing.T) {
	x := closes(t)
	x.run(1, fail(1))
	same(t, x.w.Flash(1).Down(), false, "Down, without an operation")
	f := x.w.Flash(1)
	same(t, f.Erase(17), api.OK, "Erase, of a copy") // no cut is planned any more
	x.run(bootTicks, back(1))
	same(t, x.offer(1, imageOf(2, key, "x")), api.OK, "Offer")
	x.run(1, fail(1), mask(filled(16, 255)...)) // LogBoot is being written
	same(t, x.w.Flash(1).Down(), true, "Down, with an operation that was cut")
	x.run(2)
	same(t, x.w.Flash(1).Down(), true, "Down")
	x.run(1, back(1), fail(1))
	same(t, x.w.Flash(1).Down(), false, "Down, when the power was back")
	x.run(bootTicks, back(1))
	x.run(2)
	x.logged(1, value(api.LogBoot, 1)) // what waited is lost
	same(t, x.w.Flash(0).Down(), false, "Down, of the other one")
}

// P10.10: the machine of a controller that starts is that of the other one, with its own guard.
func TestMachines(t *testing.T) {
	for i := range 2 {
		x := closes(t, hot(330000), debounce(6))
		x.loads(i, 2, guard(hot(310000), debounce(4)))
		same(t, x.switches(i), api.OK, "Switch")
		x.run(2)
		x.run(3, temp(320000)) // too hot for the new guard alone: nothing is counted before
		same(t, stateOf(x.w.Machine(i)).act, driven, "the act of the new machine")
		x.checkMachines(slices.Repeat([]api.Signals{beat(temp(320000)).Signals}, 10)...)
		x.checkMachines(slices.Repeat([]api.Signals{beat(temp(330001)).Signals}, 10)...)

		y := closes(t, debounce(6))
		y.loads(i, 2, guard(hot(310000), debounce(4)))
		same(t, y.switches(i), api.OK, "Switch")
		y.run(2)
		y.run(3, temp(330001)) // too hot for both: what the other one has counted goes on
		y.checkMachines(slices.Repeat([]api.Signals{beat(temp(330001)).Signals}, 10)...)
		same(t, y.w.Machine(i).Cause(), api.CauseNone, "Cause")
		y.run(1, temp(330001)) // it trips, and does something else than the other one
		same(t, y.w.Phase(i), boot, "Phase")
	}
}

// P10.10: a machine is new only if the other controller does not run.
func TestNewMachines(t *testing.T) {
	trip := func(x twoTwins) { x.run(10, temp(330001), open) }
	x := closes(t)
	trip(x)
	x.run(1, fail(0))
	x.run(1, back(0))
	x.run(4)
	same(t, x.w.Machine(0).Cause(), api.CauseHot, "the cause of the other one")
	x.run(1, fail(0))
	x.run(4, back(0))
	x.run(1, fail(1)) // it fails in the tick in which the other one starts
	same(t, x.w.Phase(0), runs, "Phase")
	same(t, x.w.Machine(0).Cause(), api.CauseNone, "the cause of a new machine")
	same(t, stateOf(x.w.Machine(0)), machineState{}, "a new machine")
	x.run(1, fail(0))
	x.run(5, back(0, 1))
	same(t, [2]int{x.w.Phase(0), x.w.Phase(1)}, [2]int{runs, runs}, "the phases")
	x.checkMachines(slices.Repeat([]api.Signals{beat(temp(330001), open).Signals}, 10)...)
}

// P10.10: the shadow counts ticks with equal acts in which both run and none fails, also if they are not one after another.
func TestShadow(t *testing.T) {
	x := closes(t)
	x.loads(0, 2, guard())
	x.starts(0)
	x.run(10)
	for range 3 { // the other one loses its power: the controller that tries its image is in charge
		x.run(1, fail(1))
		x.run(30)
		x.run(4, back(1))
		same(t, x.slot(0, slot1).Good, false, "Good")
		same(t, x.w.Charge(), 0, "Charge")
		x.run(1)
	}
	x.run(9)
	same(t, x.slot(0, slot1).Good, false, "Good, behind 19 ticks")
	x.run(1)
	same(t, x.slot(0, slot1).Good, true, "Good, behind 20 ticks")
	same(t, x.w.Charge(), 0, "Charge")
}

// P10.10: when it loses its power itself, its shadow is lost, too.
func TestShadowIsLost(t *testing.T) {
	x := closes(t)
	x.loads(0, 2, guard())
	x.starts(0)
	for n := 1; n <= 2; n++ {
		same(t, x.slot(0, slot1).Trials, n, "Trials")
		x.run(19)
		x.run(1, fail(0))
		x.run(5, back(0))
	}
	same(t, x.slot(0, slot1).Trials, 3, "Trials")
	x.run(19)
	same(t, x.slot(0, slot1).Good, false, "Good")
	x.run(1)
	same(t, x.slot(0, slot1).Good, true, "Good")
	x.run(1, fail(0))
	x.run(5, back(0)) // it is good: that is no trial
	same(t, x.slot(0, slot1).Trials, 3, "Trials")
	same(t, x.w.Version(0), 2, "Version")
}

// P10.10: an image whose machine does something else is rejected at once.
func TestReject(t *testing.T) {
	x := closes(t)
	x.loads(0, 9, guard(hot(310000)))
	x.starts(0)
	x.run(5)
	x.run(2, temp(315000))
	x.see(states{[2]int{runs, runs}, [2]int{9, 1}, 1}, "before the difference")
	same(t, x.tick(beat(temp(315000))), driven, "the act")
	x.see(states{[2]int{boot, runs}, [2]int{0, 1}, 1}, "behind the difference")
	s := x.slot(0, slot1)
	same(t, s.Bad && !s.Good && s.Trials == 1, true, "whether it is bad", s)
	x.logged(0, value(api.LogOffer, 9), value(api.LogReady, 9), value(api.LogBoot, 9))
	x.run(4)
	x.see(states{[2]int{boot, runs}, [2]int{0, 1}, 1}, "while it starts")
	x.run(2)
	x.see(states{[2]int{runs, runs}, [2]int{1, 1}, 1}, "when it has started")
	x.logged(0, value(api.LogOffer, 9), value(api.LogReady, 9), value(api.LogBoot, 9), value(api.LogBoot, 1)) // that it has tripped was lost
	same(t, x.switches(0), api.ErrNone, "Switch")
	same(t, x.w.Machine(0).Cause(), api.CauseNone, "Cause")
	x.loads(0, 9, guard(hot(320000))) // a bad image may be written anew
	x.starts(0)
	same(t, x.slot(0, slot1).Bad, false, "Bad")
}

// P10.10: who is in charge and tries its image is judged, too, if the other one does not.
func TestRejectInCharge(t *testing.T) {
	x := closes(t)
	x.loads(0, 9, guard(hot(310000)))
	x.starts(0)
	x.run(1, fail(1))
	x.run(5, back(1))
	x.see(states{[2]int{runs, runs}, [2]int{9, 1}, 0}, "in charge")
	x.run(2, temp(315000))
	same(t, x.tick(beat(temp(315000))), api.Act{}, "the act of the new image")
	x.see(states{[2]int{boot, runs}, [2]int{0, 1}, 0}, "behind the difference")
	same(t, x.slot(0, slot1).Bad, true, "Bad")
	same(t, x.tick(beat(temp(315000))), driven, "the act of the other one")
	x.see(states{[2]int{boot, runs}, [2]int{0, 1}, 1}, "a tick behind it")
}

// triesBoth makes a twin of which both controllers try an image: they have lost their power when both were ready.
func triesBoth(t *testing.T, a, b api.Guard) twoTwins {
	t.Helper()
	x := closes(t)
	x.loads(0, 2, a)
	x.loads(1, 3, b)
	x.run(1, fail(0, 1))
	x.run(5, back(0, 1))
	x.see(states{[2]int{runs, runs}, [2]int{2, 3}, -1}, "both have started")
	x.run(2, open)
	return x
}

// P10.10: if both try their images, the one that is not in charge is judged first.
func TestBothTry(t *testing.T) {
	x := triesBoth(t, guard(), guard())
	same(t, [2]bool{x.slot(0, slot1).Good, x.slot(1, slot1).Good}, [2]bool{false, false}, "Good")
	x.run(17)
	same(t, [2]bool{x.slot(0, slot1).Good, x.slot(1, slot1).Good}, [2]bool{false, false}, "Good")
	x.run(1)
	same(t, [2]bool{x.slot(0, slot1).Good, x.slot(1, slot1).Good}, [2]bool{false, true}, "Good")
	same(t, x.w.Charge(), 0, "Charge")
	x.run(19)
	same(t, x.slot(0, slot1).Good, false, "Good")
	x.run(1)
	same(t, x.slot(0, slot1).Good, true, "Good")
	for i := range 2 { // whichever is the one with another guard, only the one that is not in charge is rejected
		g := [2]api.Guard{guard(), guard()}
		g[i] = guard(hot(310000))
		y := triesBoth(t, g[0], g[1])
		y.run(3)
		y.run(3, temp(315000))
		y.see(states{[2]int{runs, boot}, [2]int{2, 0}, 0}, "the one that is not in charge is rejected")
		same(t, y.slot(0, slot1).Bad, false, "Bad")
		same(t, y.slot(1, slot1).Bad, true, "Bad")
	}
}

// P10.13: behind a switch the other one is in charge, if it was not.
func TestSwitchAndCharge(t *testing.T) {
	for i := range 2 {
		for charge := range 2 {
			x := closes(t)
			if charge == 1 {
				x.run(1, fail(0))
				x.run(5, back(0))
			}
			same(t, x.w.Charge(), charge, "Charge")
			x.loads(i, 4, guard())
			same(t, x.switches(i), api.OK, "Switch")
			want := charge
			if charge == i {
				want = 1 - i
			}
			same(t, x.w.Charge(), want, "Charge behind a switch")
			for range 10 {
				same(t, x.tick(beat()), driven, "the act")
			}
			same(t, x.w.Charge(), want, "Charge")
		}
	}
	x := closes(t)
	x.loads(0, 4, guard())
	x.run(1, fail(0, 1))
	x.run(5, back(0, 1)) // both run; nobody is in charge yet
	same(t, x.w.Version(0), 4, "Version")
	same(t, x.switches(1), api.ErrBusy, "Switch")
	same(t, x.w.Charge(), -1, "Charge")
}

// P10.13: an image that is tried for the last time cannot be run again: its controller can be switched back. Who is in charge does not change, if nobody is.
func TestSwitchBack(t *testing.T) {
	for _, both := range []bool{false, true} { // whether the other one starts, too
		x := closes(t)
		x.loads(0, 8, guard())
		for n := 1; n <= 3; n++ {
			lost := []int{0}
			if both && n == 3 {
				lost = []int{0, 1}
			}
			x.run(1, fail(lost...))
			x.run(5, back(0, 1))
			if n < 3 {
				same(t, x.switches(0), api.ErrNone, "Switch")
			}
		}
		charge := 1
		if both {
			charge = -1
		}
		x.see(states{[2]int{runs, runs}, [2]int{8, 1}, charge}, "the last trial")
		same(t, x.switches(1), api.ErrBusy, "Switch of the other one")
		same(t, x.switches(0), api.OK, "Switch")
		x.see(states{[2]int{boot, runs}, [2]int{0, 1}, charge}, "behind the switch")
		x.run(bootTicks)
		x.see(states{[2]int{runs, runs}, [2]int{1, 1}, 1}, "when it has started")
	}
}

// P10.10: of two slots that can be run that with the greater version is.
func TestSlotToRun(t *testing.T) {
	x := closes(t)
	x.loads(0, 2, guard())
	x.run(1, fail(0))
	x.run(5, back(0)) // without a switch
	same(t, x.w.Version(0), 2, "Version")
	x.run(20)
	x.loads(0, 3, guard(hot(320000))) // now into the slot 0
	same(t, x.slot(0, slot0).Image.Version, 3, "the version of the slot 0")
	x.starts(0)
	same(t, x.w.Version(0), 3, "Version")
	x.run(20)
	same(t, x.slot(0, slot0).Good, true, "Good")
	x.loads(0, 4, guard())
	same(t, x.slot(0, slot1).Image.Version, 4, "the version of the slot 1")
	same(t, x.slot(0, slot1).Trials, 0, "Trials, of what was written anew")
}

// P10.10, P10.19: an image is tried three times.
func TestTrials(t *testing.T) {
	x := closes(t)
	x.loads(1, 8, guard())
	for n := 1; n <= 3; n++ {
		x.run(1, fail(1))
		x.run(5, back(1))
		same(t, x.w.Version(1), 8, "Version")
		same(t, x.slot(1, slot1).Trials, n, "Trials")
	}
	x.run(1, fail(1))
	x.run(5, back(1))
	same(t, x.w.Version(1), 1, "Version")
	same(t, x.switches(1), api.ErrNone, "Switch")
	x.loads(1, 8, guard())
	x.starts(1)
	same(t, x.slot(1, slot1).Trials, 1, "Trials, of what was written anew")
}

// P10.10: a trial that is cut counts, unless its record is blank.
func TestTrialsThatAreCut(t *testing.T) {
	for _, s := range []struct {
		mask   []byte
		trials int
		torn   bool
	}{{nil, 1, false}, {[]byte{255}, 1, true}, {filled(16, 255), 0, false}} {
		x := closes(t)
		x.loads(0, 8, guard())
		same(t, x.switches(0), api.OK, "Switch")
		x.run(4)
		x.run(1, fail(0), mask(s.mask...))
		same(t, x.w.Flash(0).Down(), true, "Down")
		x.run(4, back(0))
		same(t, [2]int{x.slot(0, slot1).Trials, x.slot(0, slot0).Trials}, [2]int{s.trials, 0}, "Trials")
		same(t, x.slot(0, slot1).Torn, s.torn, "Torn")
		x.run(1)
		same(t, x.slot(0, slot1).Trials, s.trials+1, "Trials")
		same(t, x.w.Version(0), 8, "Version")
	}
}

// records is a mask with which some records of a page become blank, and all others stay as they were.
func records(l ...int) []byte {
	m := make([]byte, pageBytes)
	for _, i := range l {
		copy(m[16*i:], filled(16, 255))
	}
	return m
}

// P10.10: a trial is the first record of three that is blank, although behind it there are others, of an erasure that was cut.
func TestTrialsThatWereLeft(t *testing.T) {
	x := closes(t)
	g := guard(hot(331000))
	x.loads(0, 8, g)
	for range 4 {
		x.run(1, fail(0))
		x.run(5, back(0))
	}
	same(t, x.slot(0, slot1).Trials, 3, "Trials")
	x.run(1)
	same(t, x.offer(0, imageOf(8, key, textOf(g))), api.OK, "Offer")
	x.run(1 + 6) // LogOffer, and the pages of the blocks
	x.run(1, fail(0), mask(records(2, 3)...))
	x.run(5, back(0))
	x.run(1)
	s := x.slot(0, slot1)
	same(t, s.Set && !s.Ready && s.Trials == 2 && !s.Torn, true, "what is left", s)
	x.loads(0, 8, g)
	same(t, x.slot(0, slot1).Trials, 2, "Trials")
	x.starts(0)
	b, what, _ := x.w.Flash(0).Read(slot1, 3)
	sameList(t, b, make([]byte, 8), "the first record of the trials", what)
	same(t, x.slot(0, slot1).Trials, 3, "Trials")
}

// P10.11: an image of which a part is there is not erased, but only if it is just this one, and nothing is wrong with it.
func TestResume(t *testing.T) {
	text := textOf(guard(hot(332000)))
	im := imageOf(6, key, text)
	half := func() twoTwins {
		x := closes(t)
		x.begin(0, im)
		x.blocks(0, text, 0, 5)
		x.run(1, fail(0))
		x.run(5, back(0))
		x.run(1)
		return x
	}
	resumes := func(x twoTwins, im api.Image, want bool, about string) {
		t.Helper()
		happened := x.m.sides[0].happened["resume"]
		same(t, x.offer(0, im), api.OK, "Offer", about)
		same(t, x.m.sides[0].happened["resume"] > happened, want, "whether it goes on", about)
		e := api.ErrBusy
		if want {
			e = api.OK
		}
		same(t, x.block(0, 0, eight(0)), e, "Block", about)
		x.run(2)
		same(t, x.slot(0, slot1).Missing != nil && x.slot(0, slot1).Missing[0] > 0, want, "whether the blocks are there", about)
	}
	resumes(half(), im, true, "the same image")
	resumes(half(), with(im, func(im *api.Image) { im.Version++ }), false, "another version")
	resumes(half(), with(im, func(im *api.Image) { im.Size++ }), false, "another size")
	resumes(half(), with(im, func(im *api.Image) { im.Seal++ }), false, "another seal")
	x := half()
	resumes(x, im, true, "again")
	x.blocks(0, text, 5, 9)
	x.run(1, fail(0))
	x.run(6, back(0))
	resumes(x, im, true, "once more")
	x.blocks(0, text, 9, mostBlocks)
	x.run(2)
	x.starts(0)
	same(t, x.w.Version(0), 6, "Version")
	x.logged(0, value(api.LogOffer, 6), value(api.LogBoot, 1), value(api.LogOffer, 6), value(api.LogBoot, 1), value(api.LogOffer, 6), value(api.LogReady, 6))
}

// P10.11: what is torn, complete, ready or bad is erased.
func TestNoResume(t *testing.T) {
	text := textOf(guard(hot(310000)))
	im := imageOf(6, key, text)
	erases := func(x twoTwins, about string) {
		t.Helper()
		same(t, x.offer(0, im), api.OK, "Offer", about)
		same(t, len(x.m.sides[0].pages), 7, "how many pages are to be erased", about)
		x.run(8)
		same(t, allBlank(t, x, 0), true, "whether all is erased", about)
	}
	torn := closes(t)
	torn.begin(0, im)
	torn.blocks(0, text, 0, 3)
	same(t, torn.block(0, 3, blocksOf(text)[3]), api.OK, "Block")
	torn.run(1, fail(0), mask(255, 255))
	torn.run(6, back(0))
	same(t, torn.slot(0, slot1).Torn, true, "Torn")
	erases(torn, "torn")

	complete := closes(t)
	complete.begin(0, im)
	complete.blocks(0, text, 0, mostBlocks)
	complete.run(1, fail(0), mask(filled(16, 255)...)) // the record 2 stays blank
	complete.run(6, back(0))
	s := complete.slot(0, slot1)
	same(t, s.Set && !s.Ready && !s.Torn && len(s.Missing) == 0, true, "whether no block is missing", s)
	erases(complete, "complete")

	isBad := closes(t)
	isBad.loads(0, 6, guard(hot(310000)))
	isBad.starts(0)
	isBad.run(3, temp(315000))
	isBad.run(6)
	isBad.offer(0, im)
	isBad.run(1 + 6)
	isBad.run(1, fail(0), mask(records(2, 3, 4, 5, 6)...)) // the record 7 is left
	isBad.run(6, back(0))
	s = isBad.slot(0, slot1)
	same(t, s.Set && !s.Ready && s.Bad && !s.Torn && s.Trials == 0, true, "whether it is bad", s)
	erases(isBad, "bad")

	ready := closes(t)
	ready.loads(0, 6, guard(hot(310000)))
	ready.offer(0, im)
	ready.run(1 + 6)
	ready.run(1, fail(0), mask(records()...)) // all of the first page is left
	ready.run(6, back(0))
	s = ready.slot(0, slot1)
	same(t, s.Set && s.Ready && !s.Bad && !s.Torn && len(s.Missing) > 0, true, "whether it is ready", s)
	erases(ready, "ready")
}

// allBlank reports whether all pages of the slot 1 of a controller are blank.
func allBlank(t *testing.T, x twoTwins, i int) bool {
	t.Helper()
	for p := slot1; p < slot1+slotPages; p++ {
		if !slices.Equal(rawOf(t, x.w.Flash(i), p), filled(pageBytes, 255)) {
			return false
		}
	}
	return true
}

// P10.11: an image that was rejected, or is ready, may be offered again, also to a controller whose log is full of other things.
func TestOfferOfWhatIsReady(t *testing.T) {
	x := closes(t)
	x.loads(0, 6, guard())
	x.loads(0, 6, guard())
	x.loads(0, 5, guard(hot(320000)))
	x.starts(0)
	same(t, x.w.Version(0), 5, "Version")
}

// P10.10: each operation of a controller may be cut; behind that it starts again, and the update can be done.
func TestUpdateThatIsCut(t *testing.T) {
	r := chance(20)
	text := textOf(guard(hot(320000)))
	im := imageOf(5, key, text)
	for after := range 60 {
		for range 4 {
			x := closes(t)
			m := drawMask(r)
			for n := range 60 {
				if n == after {
					x.run(1, fail(0), mask(m...))
					x.run(6, back(0))
				}
				if s := x.m.sides[0]; s.version() == 5 && !s.tries() {
					break
				} else if s.version() == 1 && !s.loads && x.m.toRun(s) != slot1 {
					same(t, x.offer(0, im), api.OK, "Offer")
				} else if !s.loads && s.version() == 1 {
					same(t, x.switches(0), api.OK, "Switch")
				}
				if s := x.m.sides[0]; s.loads && s.f.look(slot1).Set && len(s.pages) == 0 && len(s.values) == 0 {
					if missing := s.f.look(slot1).Missing; len(missing) > 0 {
						k := pick(r, missing...)
						same(t, x.block(0, k, blocksOf(text)[k]), api.OK, "Block")
					}
				}
				same(t, x.tick(beat()), driven, "the act")
			}
		}
	}
}

// P10.9, R4: a copy is in the same state, and independent.
func TestCopiesOfATwin(t *testing.T) {
	text := textOf(guard(hot(320000)))
	l := blocksOf(text)
	for _, first := range []bool{true, false} { // which one goes on
		x := closes(t, debounce(9))
		x.run(3, temp(330001))
		x.begin(0, imageOf(2, key, text), temp(330001))
		for k := range 7 {
			x.block(0, k, l[k])
		}
		x.offer(1, imageOf(3, key, text))
		x.run(3)
		c := x.clone()
		c.check()
		if !first {
			x, c = c, x
		}
		x.block(0, 7, l[7])
		x.run(5, fail(1), temp(330001))
		c.check()
		d := x.clone()
		c.block(0, 8, l[8])
		c.block(0, 9, l[9])
		c.run(20)
		c.blocks(0, text, 0, mostBlocks)
		c.run(2)
		c.starts(0)
		x.check()
		d.check()
		x.run(20, back(1))
		d.check()
		d.run(5, fail(0))
		d.run(7, back(0, 1))
		x.checkMachines(slices.Repeat([]api.Signals{beat(temp(330001)).Signals}, 10)...)
		c.checkMachines(slices.Repeat([]api.Signals{beat(temp(330001)).Signals}, 10)...)
		c.run(30)
		x.check()
		c.check()
		d.check()
	}
}

// P10.14, R4: what Machine and Flash return are copies.
func TestMachineAndFlashAreCopies(t *testing.T) {
	x := closes(t)
	for i := range 2 {
		m, f := x.w.Machine(i), x.w.Flash(i)
		for range 5 {
			m.Step(beat(temp(330001)).Signals)
		}
		same(t, m.Cause(), api.CauseHot, "Cause")
		for p := range 18 {
			same(t, f.Erase(p), api.OK, "Erase")
		}
		same(t, f.Cut(0, nil), api.OK, "Cut")
		f.Erase(0)
		x.check()
		x.run(2)
		same(t, stateOf(m).cause, api.CauseHot, "the cause of a copy")
	}
	var _ *protect.Machine = x.w.Machine(0)
	x.run(3)
}
