package charge

import (
	"slices"

	"coulomb/api"
)

// Line is one end of a connection over which packets may be lost, doubled, and late.
type Line struct {
	self *Line // one that was not made here does not point to itself, and is not valid
	outgoing
	incoming
}

// outgoing is the direction in which a line sends.
type outgoing struct {
	waiting []api.Note
	done    int // how many notes are known to have arrived
}

// incoming is the direction from which notes arrive at a line.
type incoming struct {
	taken int // how many notes have arrived
	owes  bool
}

// NewLine returns a line. (P9.3)
func NewLine() *Line { return newLine(outgoing{}, incoming{}) }

// Send lets a note wait. (P9.3)
func (l *Line) Send(n api.Note) api.Errno {
	if !l.valid() {
		return api.ErrNil
	}
	if len(l.waiting) >= api.MaxNotes {
		return api.ErrFull
	}
	l.waiting = append(l.waiting, n)
	return api.OK
}

// Poll returns the next packet. (P9.3)
func (l *Line) Poll() (api.Packet, bool) {
	if !l.valid() || len(l.waiting) == 0 && !l.owes {
		return api.Packet{}, false
	}
	l.owes = false
	p := l.first()
	p.Ack = l.taken
	return p, true
}

// Receive receives a packet. (P9.3)
func (l *Line) Receive(p api.Packet) (api.Note, bool) {
	if !l.valid() {
		return api.Note{}, false
	}
	l.confirm(p.Ack)
	if !p.Has || !l.take(p.Number) {
		return api.Note{}, false
	}
	return p.Note, true
}

// Waiting returns how many notes wait. (P9.3)
func (l *Line) Waiting() int {
	if !l.valid() {
		return 0
	}
	return len(l.waiting)
}

// Copy returns an independent copy. (P9.3)
func (l *Line) Copy() *Line {
	if !l.valid() {
		return nil
	}
	return newLine(l.outgoing, l.incoming)
}

// newLine returns a line that shares no memory with the directions of which it is made.
func newLine(o outgoing, i incoming) *Line {
	l := &Line{outgoing: outgoing{slices.Clone(o.waiting), o.done}, incoming: i}
	l.self = l
	return l
}

// valid reports whether a line was made by a function of this package.
func (l *Line) valid() bool { return l != nil && l.self == l }

// first returns a packet with the first note that waits, if there is one.
func (o *outgoing) first() api.Packet {
	if len(o.waiting) == 0 {
		return api.Packet{}
	}
	return api.Packet{Has: true, Number: o.done + 1, Note: o.waiting[0]}
}

// confirm removes the notes that have arrived, if the number of all that have can be true.
func (o *outgoing) confirm(arrived int) {
	if arrived > o.done && arrived-o.done <= len(o.waiting) {
		o.waiting = slices.Delete(o.waiting, 0, arrived-o.done)
		o.done = arrived
	}
}

// take takes the note with a number, and reports whether it is the next one.
func (i *incoming) take(number int) bool {
	i.owes = true // also for a note that has arrived before: the other end does not know it yet
	if number != i.taken+1 {
		return false
	}
	i.taken = number
	return true
}
