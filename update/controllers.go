package update

import (
	"slices"

	"coulomb/api"
	"coulomb/protect"
)

// Where the slots of a controller begin: behind its log. Their pages are all that its flash has.
const (
	firstSlot       = api.LogPages
	slots           = 2
	controllerPages = firstSlot + slots*api.SlotPages
)

// What is logged: a code, and a number in the bits behind it.
const (
	numberBits = 24
	numbers    = 1 << numberBits
)

// controller is a controller: what stays when it loses its power, and what does not.
type controller struct {
	key uint64
	*Flash
	powered
}

// powered is what a controller has only as long as it has power. Without a phase it has none.
type powered struct {
	phase, timer      int
	its               int // the slot that it runs
	machine           *protect.Machine
	shadow            int
	rejects, confirms bool
	values            []uint32
	load              *load // nil: it does not load
}

// load is an image that is being loaded into a slot.
type load struct {
	image  api.Image
	pages  []int // that are still to be erased
	blocks []block
}

// block is a block that waits to be written.
type block struct {
	number int
	bytes  [api.RecordBytes]byte
}

// conduct is what a controller does in a phase.
type conduct struct {
	back func(c *controller) // when its power is back
	work func(c *controller) // in its part of a tick, as far as its power lasts
}

// phases returns what controllers do, by their phase.
func phases() [4]conduct {
	return [4]conduct{
		api.TwinOff:  {back: (*controller).turnOn, work: (*controller).rest},
		api.TwinBoot: {back: (*controller).rest, work: (*controller).wait},
		api.TwinRun:  {back: (*controller).rest, work: (*controller).operate},
		api.TwinDead: {back: (*controller).rest, work: (*controller).rest},
	}
}

// newController returns a controller that runs an image, but has no machine yet.
func newController(key uint64, im api.Image, text string) *controller {
	c := &controller{key, newFlash(slices.Repeat([]page{blankPage()}, controllerPages)), powered{phase: api.TwinRun}}
	c.slot(0).write(im, []byte(text))
	return c
}

// clone returns an independent copy.
func (c *controller) clone() *controller {
	x := &controller{c.key, c.Copy(), c.powered}
	x.machine, x.values = c.machine.Copy(), slices.Clone(c.values)
	if l := c.load; l != nil {
		x.load = &load{l.image, slices.Clone(l.pages), slices.Clone(l.blocks)}
	}
	return x
}

// isRunning reports whether a controller runs.
func (c *controller) isRunning() bool { return c.phase == api.TwinRun }

// slot returns a slot.
func (c *controller) slot(i int) slot { return slot{c.Flash, firstSlot + i*api.SlotPages} }

// mine returns the slot that it runs, and other the other one.
func (c *controller) mine() slot  { return c.slot(c.its) }
func (c *controller) other() slot { return c.slot(1 - c.its) }

// version returns the version that it runs.
func (c *controller) version() int {
	im, _ := c.mine().image()
	return im.Version
}

// tries reports whether it tries its image.
func (c *controller) tries() bool { return c.isRunning() && !c.mine().has(goodMark) }

// next returns the slot to run, if there is one.
func (c *controller) next() (int, bool) {
	best, version := 0, 0
	for i := range slots {
		if _, can := c.slot(i).guard(c.key); !can {
			continue
		}
		if im, _ := c.slot(i).image(); im.Version > version {
			best, version = i, im.Version
		}
	}
	return best, version > 0
}

// note lets a code and a number wait to be logged. If too much waits, it is lost.
func (c *controller) note(code, number int) {
	if len(c.values) < api.MaxQueue {
		c.values = append(c.values, uint32(code)<<numberBits|uint32(number%numbers))
	}
}

// step does a step of the machine.
func (c *controller) step(s api.Signals) {
	before := c.machine.Cause()
	c.machine.Step(s)
	if cause := c.machine.Cause(); before == api.CauseNone && cause != api.CauseNone {
		c.note(api.LogTrip, cause)
	}
}

// judge counts a tick in which the acts of both machines were equal, or not.
func (c *controller) judge(equal bool) {
	if !equal {
		c.rejects = true
		return
	}
	c.shadow++
	c.confirms = c.shadow >= api.ShadowTicks
}

// begin begins to load an image, or goes on with it if a part of just this one is there.
func (c *controller) begin(im api.Image) {
	s := c.other()
	c.load = &load{image: im}
	if x := s.look(); !x.Set || x.Image != im || x.Ready || x.Bad || x.Torn || len(x.Missing) == 0 {
		c.load.pages = s.erasures()
	}
	c.note(api.LogOffer, im.Version)
}

// rest does nothing.
func (c *controller) rest() {}

// turnOn starts the flash and the controller.
func (c *controller) turnOn() {
	c.down = false
	c.boot()
}

// boot begins to start the controller.
func (c *controller) boot() { c.powered = powered{phase: api.TwinBoot} }

// wait waits until it is time to start.
func (c *controller) wait() {
	c.timer++
	if c.timer >= api.BootTicks {
		c.start()
	}
}

// start starts the slot to run, which is a trial if it is not good.
func (c *controller) start() {
	next, some := c.next()
	if !some {
		c.powered = powered{phase: api.TwinDead}
		return
	}
	if s := c.slot(next); !s.has(goodMark) {
		s.try()
	}
	c.powered = powered{phase: api.TwinRun, its: next}
	c.note(api.LogBoot, c.version())
}

// equip gives it a machine with the guard of its slot, which goes on where another one is, if there is one.
func (c *controller) equip(other *protect.Machine) {
	g, _ := c.mine().fit(c.mine().look(), c.key)
	if other != nil {
		c.machine, _ = other.With(g)
		return
	}
	c.machine, _ = protect.NewMachine(g)
}

// fail is what a controller does when it loses its power: its operation is cut, and what needs power is gone.
func (c *controller) fail(mask []byte) {
	c.plan(0, mask)
	attempt(func() { phases()[c.phase].work(c) })
	c.cut = cut{} // there may have been no operation
	c.powered = powered{phase: api.TwinOff}
}

// operate does the operation of a controller that runs.
func (c *controller) operate() {
	switch {
	case c.rejects:
		c.reject()
	case c.confirms:
		c.confirm()
	case len(c.values) > 0:
		if (log{c.Flash, 0, api.LogPages}).step(c.values[0]) {
			c.values = slices.Delete(c.values, 0, 1)
		}
	case c.load != nil:
		c.goOn()
	}
}

// reject marks the image as bad, and begins to start again, with another one.
func (c *controller) reject() {
	if s := c.mine(); !s.has(badMark) {
		s.set(badMark)
	}
	c.boot()
}

// confirm marks the image as good.
func (c *controller) confirm() {
	c.mine().set(goodMark)
	c.confirms = false
	c.note(api.LogGood, c.version())
}

// goOn goes on to load.
func (c *controller) goOn() {
	l, s := c.load, c.other()
	switch {
	case len(l.pages) > 0:
		s.erase(l.pages[0])
		l.pages = l.pages[1:]
	case !s.isGood(imageRecord):
		s.fill(s.mark(imageRecord), imageBytes(l.image))
	case !s.isGood(sealRecord):
		s.fill(s.mark(sealRecord), sealBytes(l.image))
	case !l.write(s):
		c.complete()
	}
}

// write writes the first block that waits and is not there, and reports whether there was one.
func (l *load) write(s slot) bool {
	for len(l.blocks) > 0 {
		b := l.blocks[0]
		at := s.block(b.number)
		if s.isBlank(at) {
			s.program(at, b.bytes[:])
			l.blocks = l.blocks[1:]
			return true
		}
		l.blocks = l.blocks[1:]
	}
	return false
}

// complete ends to load an image if no block of it is missing: then it is ready, or wrong.
func (c *controller) complete() {
	s, version := c.other(), c.load.image.Version
	x := s.look()
	if len(x.Missing) > 0 {
		return
	}
	code := api.LogWrong
	if _, fits := s.fit(x, c.key); fits {
		s.set(readyMark)
		code = api.LogReady
	}
	c.note(code, version)
	c.load = nil
}
