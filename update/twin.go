package update

import (
	"coulomb/api"
	"coulomb/protect"
)

// nobody is who is in charge if there is none.
const nobody = -1

// firstVersion is the version of the image with which controllers are made.
const firstVersion = 1

// Twin is two controllers, of which one is in charge.
type Twin struct {
	self        *Twin // one that was not made here does not point to itself, and is not valid
	controllers [2]*controller
	charge      int
}

// NewTwin returns a twin. (P10.9)
func NewTwin(g api.Guard, key uint64) (*Twin, api.Errno) {
	text, e := protect.Text(g)
	if e != api.OK {
		return nil, api.ErrArg
	}
	seal, e := Seal(key, []byte(text))
	if e != api.OK {
		return nil, api.ErrArg
	}
	im := api.Image{Version: firstVersion, Size: len(text), Seal: seal}
	t := &Twin{}
	for i := range t.controllers {
		t.controllers[i] = newController(key, im, text)
	}
	t.equip()
	t.self = t
	return t, api.OK
}

// Tick lets a tick pass. (P10.10)
func (t *Twin) Tick(b api.Beat) (api.Act, api.Errno) {
	if !t.valid() {
		return api.Act{}, api.ErrNil
	}
	if !isQuantity(b.Signals.Link) || !isQuantity(b.Signals.Pack) {
		return api.Act{}, api.ErrArg
	}
	if len(b.Mask) > pageBytes {
		return api.Act{}, api.ErrLong
	}
	return t.tick(b), api.OK
}

// Offer offers an image to a controller. (P10.11)
func (t *Twin) Offer(i int, im api.Image) api.Errno {
	c, e := t.running(i)
	if e != api.OK {
		return e
	}
	if !isImage(im) {
		return api.ErrRange
	}
	if im.Version <= c.version() {
		return api.ErrOld
	}
	if c.load != nil || c.tries() {
		return api.ErrBusy
	}
	c.begin(im)
	return api.OK
}

// Block brings a block of an image to a controller. (P10.12)
func (t *Twin) Block(i, k int, b []byte) api.Errno {
	c, e := t.running(i)
	if e != api.OK {
		return e
	}
	l := c.load
	if l == nil {
		return api.ErrNone
	}
	if s := c.other(); len(l.pages) > 0 || !s.isGood(imageRecord) || !s.isGood(sealRecord) {
		return api.ErrBusy
	}
	if !isFrom(k, 0, blocksOf(l.image.Size)-1) {
		return api.ErrRange
	}
	if len(b) != api.RecordBytes {
		return api.ErrArg
	}
	if len(l.blocks) >= api.MaxQueue {
		return api.ErrFull
	}
	l.blocks = append(l.blocks, block{k, [api.RecordBytes]byte(b)})
	return api.OK
}

// Switch restarts a controller with its new image. (P10.13)
func (t *Twin) Switch(i int) api.Errno {
	c, e := t.running(i)
	if e != api.OK {
		return e
	}
	other := t.controllers[1-i]
	if !other.isRunning() || other.tries() {
		return api.ErrBusy
	}
	if next, some := c.next(); !some || next == c.its {
		return api.ErrNone
	}
	c.boot()
	if t.charge == i {
		t.charge = 1 - i
	}
	return api.OK
}

// Phase returns the phase of a controller. (P10.14)
func (t *Twin) Phase(i int) int {
	if !t.has(i) {
		return 0
	}
	return t.controllers[i].phase
}

// Version returns the version that a controller runs. (P10.14)
func (t *Twin) Version(i int) int {
	c, e := t.running(i)
	if e != api.OK {
		return 0
	}
	return c.version()
}

// Charge returns the controller in charge. (P10.14)
func (t *Twin) Charge() int {
	if !t.valid() {
		return nobody
	}
	return t.charge
}

// Machine returns a copy of the machine of a controller. (P10.14)
func (t *Twin) Machine(i int) *protect.Machine {
	c, e := t.running(i)
	if e != api.OK {
		return nil
	}
	return c.machine.Copy()
}

// Flash returns a copy of the flash of a controller. (P10.14)
func (t *Twin) Flash(i int) *Flash {
	if !t.has(i) {
		return nil
	}
	return t.controllers[i].Copy()
}

// Copy returns a copy of a twin. (P10.9)
func (t *Twin) Copy() *Twin {
	if !t.valid() {
		return nil
	}
	c := &Twin{charge: t.charge}
	for i, x := range t.controllers {
		c.controllers[i] = x.clone()
	}
	c.self = c
	return c
}

// valid reports whether a twin was made by a function of this package.
func (t *Twin) valid() bool { return t != nil && t.self == t }

// has reports whether there is a controller.
func (t *Twin) has(i int) bool { return t.valid() && isFrom(i, 0, len(t.controllers)-1) }

// running returns a controller, or the errors of it.
func (t *Twin) running(i int) (*controller, api.Errno) {
	if !t.valid() {
		return nil, api.ErrNil
	}
	if !t.has(i) {
		return nil, api.ErrRange
	}
	if c := t.controllers[i]; c.isRunning() {
		return c, api.OK
	}
	return nil, api.ErrState
}

// tick does the parts of a tick, one after another.
func (t *Twin) tick(b api.Beat) api.Act {
	var able [2]bool // who runs, and does not fail
	for i, c := range t.controllers {
		if b.Back[i] {
			phases()[c.phase].back(c)
		}
		able[i] = c.isRunning() && !b.Fail[i]
		if able[i] {
			c.step(b.Signals)
		}
	}
	act := t.take(able)
	if able == [2]bool{true, true} {
		t.compare()
	}
	for i, c := range t.controllers {
		if b.Fail[i] {
			c.fail(b.Mask)
		} else {
			phases()[c.phase].work(c)
		}
	}
	t.equip()
	return act
}

// take finds who is in charge, by who is able to be, and returns the act of that machine.
func (t *Twin) take(able [2]bool) api.Act {
	for _, i := range []int{t.charge, 0, 1} {
		if i != nobody && able[i] {
			t.charge = i
			return t.controllers[i].machine.Act()
		}
	}
	t.charge = nobody
	return api.Act{}
}

// compare compares what both machines have done, where that is about an image that is tried.
func (t *Twin) compare() {
	equal := t.controllers[0].machine.Act() == t.controllers[1].machine.Act()
	for i, c := range t.controllers {
		if c.tries() && (i != t.charge || !t.controllers[1-i].tries()) {
			c.judge(equal)
		}
	}
}

// equip gives machines to the controllers that have just started: that of the other one goes on, if there is one.
func (t *Twin) equip() {
	for i, c := range t.controllers {
		if c.isRunning() && c.machine == nil {
			c.equip(t.controllers[1-i].machine)
		}
	}
}

// isQuantity reports whether a number is a quantity.
func isQuantity(x int64) bool { return isFrom(x, -api.MaxQuantity, api.MaxQuantity) }
