package update_test

import (
	"slices"
	"testing"

	"coulomb/api"
	"coulomb/protect"
	"coulomb/update"
)

// sideModel is a controller as the chapter describes it.
type sideModel struct {
	f            *flashModel
	phase, timer int

	// what it has when it runs
	slot              int // the page with which it begins
	machine           *protect.Machine
	act               api.Act
	shadow            int
	rejects, confirms bool
	values            []uint32
	loads             bool
	image             api.Image
	pages             []int
	blocks            []waiting

	happened map[string]int // how often things have happened that drawn plays have to reach
}

// waiting is a block that waits.
type waiting struct {
	k int
	b []byte
}

// twinModel is a twin as the chapter describes it.
type twinModel struct {
	key    uint64
	sides  [2]*sideModel
	charge int
}

func newTwinModel(g api.Guard, key uint64) *twinModel {
	m := &twinModel{key: key}
	text := textOf(g)
	for i := range m.sides {
		s := &sideModel{f: newFlashModel(18), phase: api.TwinRun, slot: slot0, happened: map[string]int{}}
		s.f.write(slot0, imageOf(1, key, text), []byte(text))
		s.machine, _ = protect.NewMachine(g)
		m.sides[i] = s
	}
	return m
}

// clone is a copy of the model, but for what has happened.
func (m *twinModel) clone() *twinModel {
	c := *m
	for i, s := range m.sides {
		x := *s
		x.f, x.machine, x.values, x.pages, x.blocks = s.f.clone(), s.machine.Copy(), slices.Clone(s.values), slices.Clone(s.pages), slices.Clone(s.blocks)
		c.sides[i] = &x
	}
	return &c
}

// runs reports whether a controller runs.
func (s *sideModel) runs() bool { return s.phase == api.TwinRun }

// version is the version that it runs.
func (s *sideModel) version() int {
	if !s.runs() {
		return 0
	}
	return s.f.look(s.slot).Image.Version
}

// other is where the other slot begins.
func (s *sideModel) other() int { return slot0 + slot1 - s.slot }

// tries reports whether it tries its image.
func (s *sideModel) tries() bool { return s.runs() && !s.f.look(s.slot).Good }

// toRun is where the slot to run begins; 0 if there is none.
func (m *twinModel) toRun(s *sideModel) int {
	a, b := s.f.canRun(slot0, m.key), s.f.canRun(slot1, m.key)
	switch {
	case a && b && s.f.look(slot1).Image.Version > s.f.look(slot0).Image.Version:
		return slot1
	case a:
		return slot0
	case b:
		return slot1
	}
	return 0
}

// note lets something wait to be logged.
func (s *sideModel) note(code, n int) {
	if len(s.values) < mostQueue {
		s.values = append(s.values, uint32(code*(1<<24)+n%(1<<24)))
	}
}

// stop makes a controller stop, and be in a phase without anything that it has when it runs.
func (s *sideModel) stop(phase int) {
	*s = sideModel{f: s.f, phase: phase, happened: s.happened}
}

// tick is a tick, part by part.
func (m *twinModel) tick(b api.Beat) api.Act {
	for i, s := range m.sides {
		if b.Back[i] && s.phase == api.TwinOff {
			s.f.down = false
			s.stop(api.TwinBoot)
		}
	}
	for i, s := range m.sides {
		if s.runs() && !b.Fail[i] {
			before := s.machine.Cause()
			s.act, _ = s.machine.Step(b.Signals)
			if before == api.CauseNone && s.machine.Cause() != api.CauseNone {
				s.note(api.LogTrip, s.machine.Cause())
			}
		}
	}
	m.choose(b.Fail)
	act := api.Act{}
	if m.charge >= 0 {
		act = m.sides[m.charge].act
	}
	if m.sides[0].runs() && m.sides[1].runs() && !b.Fail[0] && !b.Fail[1] {
		m.judge()
	}
	var started [2]bool
	for i, s := range m.sides {
		started[i] = m.work(s, b.Fail[i], b.Mask)
	}
	m.giveMachines(started)
	return act
}

// choose finds who is in charge.
func (m *twinModel) choose(fail [2]bool) {
	can := func(i int) bool { return m.sides[i].runs() && !fail[i] }
	switch {
	case m.charge >= 0 && can(m.charge):
	case can(0):
		m.charge = 0
	case can(1):
		m.charge = 1
	default:
		m.charge = -1
	}
}

// judge judges those that try their images.
func (m *twinModel) judge() {
	for i, s := range m.sides {
		if !s.tries() || i == m.charge && m.sides[1-i].tries() {
			continue
		}
		if m.sides[0].act != m.sides[1].act {
			s.rejects = true
			s.happened["reject"]++
			if i == m.charge {
				s.happened["reject in charge"]++
			}
			continue
		}
		s.shadow++
		s.confirms = s.shadow == shadowTicks
	}
}

// work is the part of a tick in which flashes do their operations; it reports whether the controller has started.
func (m *twinModel) work(s *sideModel, fails bool, mask []byte) bool {
	wasBoot := s.phase == api.TwinBoot
	if fails {
		s.f.planned, s.f.after, s.f.mask = true, 0, slices.Clone(mask)
	}
	if s.runs() {
		m.operation(s)
	}
	started := false
	if wasBoot {
		s.timer++
		if s.timer == bootTicks {
			started = m.start(s)
		}
	}
	if !fails {
		return started
	}
	if s.f.down {
		s.happened["cut"]++
	}
	s.f.planned, s.f.mask = false, nil
	s.stop(api.TwinOff)
	return false
}

// start starts a controller, if there is something to run.
func (m *twinModel) start(s *sideModel) bool {
	slot := m.toRun(s)
	if slot == 0 {
		s.stop(api.TwinDead)
		return false
	}
	if look := s.f.look(slot); !look.Good {
		s.happened["trial"]++
		for r := 3; r <= 5; r++ {
			if s.f.what(slot, r) == api.RecordBlank {
				s.f.program(slot, r, make([]byte, 8))
				break
			}
		}
	}
	s.stop(api.TwinRun)
	s.slot = slot
	s.note(api.LogBoot, s.version())
	return true
}

// giveMachines gives machines to those that have started.
func (m *twinModel) giveMachines(started [2]bool) {
	for i, s := range m.sides {
		if !started[i] {
			continue
		}
		g, _ := s.f.fits(s.slot, m.key)
		if other := m.sides[1-i]; other.runs() && other.machine != nil {
			s.machine, _ = other.machine.With(g)
		} else {
			s.machine, _ = protect.NewMachine(g)
			s.happened["new machine"]++
		}
	}
}

// operation does the first operation that there is.
func (m *twinModel) operation(s *sideModel) {
	if s.rejects {
		if s.f.what(s.slot, 7) == api.RecordBlank {
			s.f.program(s.slot, 7, make([]byte, 8))
		}
		s.stop(api.TwinBoot)
	} else if s.confirms {
		s.f.program(s.slot, 6, make([]byte, 8))
		s.confirms = false
		s.happened["confirm"]++
		s.note(api.LogGood, s.version())
	} else if len(s.values) > 0 {
		if appended, _ := s.f.step(0, 4, s.values[0]); appended {
			s.values = s.values[1:]
		}
	} else if s.loads {
		m.load(s)
	}
}

// load does the operation of a controller that loads.
func (m *twinModel) load(s *sideModel) {
	to := s.other()
	if len(s.pages) > 0 {
		s.f.erase(s.pages[0])
		s.pages = s.pages[1:]
		return
	}
	for r, b := range [][]byte{versionBytes(s.image), sealBytes(s.image)} {
		if what := s.f.what(to, r); what != api.RecordGood {
			if what == api.RecordBlank {
				s.f.program(to, r, b)
			}
			return
		}
	}
	for len(s.blocks) > 0 {
		w := s.blocks[0]
		s.blocks = s.blocks[1:]
		if s.f.what(to+1+w.k/8, w.k%8) == api.RecordBlank {
			s.f.program(to+1+w.k/8, w.k%8, w.b)
			return
		}
		s.happened["block again"]++
	}
	if len(s.f.look(to).Missing) > 0 {
		return
	}
	s.loads = false
	if _, fits := s.f.fits(to, m.key); fits {
		s.f.program(to, 2, make([]byte, 8))
		s.note(api.LogReady, s.image.Version)
		s.happened["ready"]++
	} else {
		s.note(api.LogWrong, s.image.Version)
		s.happened["wrong"]++
	}
}

// offer is Offer.
func (m *twinModel) offer(i int, im api.Image) api.Errno {
	if i != 0 && i != 1 {
		return api.ErrRange
	}
	s := m.sides[i]
	switch {
	case !s.runs():
		return api.ErrState
	case im.Version < 1 || im.Version > mostVersion || im.Size < 1 || im.Size > mostSize || im.Seal > mostSeal:
		return api.ErrRange
	case im.Version <= s.version():
		return api.ErrOld
	case s.loads || s.tries():
		return api.ErrBusy
	}
	to := s.other()
	s.loads, s.image, s.pages, s.blocks = true, im, nil, nil
	if x := s.f.look(to); x.Set && x.Image == im && !x.Ready && !x.Bad && !x.Torn && len(x.Missing) > 0 {
		s.happened["resume"]++
	} else {
		s.pages = []int{to + 1, to + 2, to + 3, to + 4, to + 5, to + 6, to}
	}
	s.note(api.LogOffer, im.Version)
	return api.OK
}

// block is Block.
func (m *twinModel) block(i, k int, b []byte) api.Errno {
	if i != 0 && i != 1 {
		return api.ErrRange
	}
	s := m.sides[i]
	switch {
	case !s.runs():
		return api.ErrState
	case !s.loads:
		return api.ErrNone
	case len(s.pages) > 0 || s.f.what(s.other(), 0) != api.RecordGood || s.f.what(s.other(), 1) != api.RecordGood:
		return api.ErrBusy
	case k < 0 || k > (s.image.Size-1)/8:
		return api.ErrRange
	case len(b) != 8:
		return api.ErrArg
	case len(s.blocks) == mostQueue:
		return api.ErrFull
	}
	s.blocks = append(s.blocks, waiting{k, slices.Clone(b)})
	return api.OK
}

// change is Switch.
func (m *twinModel) change(i int) api.Errno {
	if i != 0 && i != 1 {
		return api.ErrRange
	}
	s, other := m.sides[i], m.sides[1-i]
	switch {
	case !s.runs():
		return api.ErrState
	case !other.runs() || other.tries():
		return api.ErrBusy
	case m.toRun(s) != s.other():
		return api.ErrNone
	}
	s.stop(api.TwinBoot)
	if m.charge == i {
		m.charge = 1 - i
	}
	return api.OK
}

// twoTwins are a twin and its model.
type twoTwins struct {
	t *testing.T
	w *update.Twin
	m *twinModel
}

// newTwins makes both, with the guard of the examples, changed.
func newTwins(t *testing.T, changes ...change[api.Guard]) twoTwins {
	t.Helper()
	x := twoTwins{t, newTwin(t, guard(changes...), key), newTwinModel(guard(changes...), key)}
	x.check()
	return x
}

// clone is a copy of both.
func (x twoTwins) clone() twoTwins { return twoTwins{x.t, x.w.Copy(), x.m.clone()} }

// check compares both.
func (x twoTwins) check() {
	x.t.Helper()
	same(x.t, x.w.Charge(), x.m.charge, "Charge")
	for i, s := range x.m.sides {
		same(x.t, x.w.Phase(i), s.phase, "Phase", i)
		same(x.t, x.w.Version(i), s.version(), "Version", i)
		f := x.w.Flash(i)
		twoFlashes{x.t, f, s.f}.check()
		machine := x.w.Machine(i)
		same(x.t, machine != nil, s.runs(), "whether there is a machine", i)
		if machine != nil {
			same(x.t, stateOf(machine), stateOf(s.machine), "the machine", i)
		}
	}
}

// machineState is what a machine tells.
type machineState struct {
	phase, cause int
	bad          [3]bool
	act          api.Act
}

func stateOf(m *protect.Machine) machineState {
	return machineState{m.Phase(), m.Cause(), m.Bad(), m.Act()}
}

// checkMachines compares what the machines do with some signals from now on, by which their guards and counters can be told.
func (x twoTwins) checkMachines(l ...api.Signals) {
	x.t.Helper()
	for i, s := range x.m.sides {
		if !s.runs() {
			continue
		}
		a, b := x.w.Machine(i), s.machine.Copy()
		for n, signals := range l {
			a.Step(signals)
			b.Step(signals)
			same(x.t, stateOf(a), stateOf(b), "the machine", i, "behind signals", n)
		}
	}
}

// tick lets a tick pass.
func (x twoTwins) tick(b api.Beat) api.Act {
	x.t.Helper()
	a, e := x.w.Tick(b)
	same(x.t, e, api.OK, "Tick")
	same(x.t, a, x.m.tick(b), "the act of a tick")
	x.check()
	return a
}

// offer, block and switches change a controller, and compare the errors with that of the model.
func (x twoTwins) offer(i int, im api.Image) api.Errno {
	x.t.Helper()
	want := x.m.offer(i, im)
	same(x.t, x.w.Offer(i, im), want, "Offer", i, im)
	x.check()
	return want
}
func (x twoTwins) block(i, k int, b []byte) api.Errno {
	x.t.Helper()
	want := x.m.block(i, k, b)
	same(x.t, x.w.Block(i, k, b), want, "Block", i, k, b)
	x.check()
	return want
}
func (x twoTwins) switches(i int) api.Errno {
	x.t.Helper()
	want := x.m.change(i)
	same(x.t, x.w.Switch(i), want, "Switch", i)
	x.check()
	return want
}
