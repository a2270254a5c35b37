package passport_test

import (
	"encoding/binary"
	"slices"
	"strings"
	"testing"

	"coulomb/api"
	"coulomb/passport"
)

// isBook reports whether a book is valid.
func isBook(b api.Book) bool {
	for _, pad := range b.Pads {
		if pad >= largePrime {
			return false
		}
	}
	return 1 <= b.Point && b.Point < largePrime && len(b.Pads) <= mostPads
}

// errorOf is the error that a point and books make.
func errorOf(point uint64, books []api.Book) api.Errno {
	if point < 1 || point >= largePrime {
		return api.ErrRange
	}
	if len(books) < 1 || len(books) > mostBooks {
		return api.ErrArg
	}
	for _, b := range books {
		if !isBook(b) {
			return api.ErrArg
		}
	}
	return api.OK
}

// messageOf is the message of an entry behind a head.
func messageOf(head uint64, e api.Event, by int) []byte {
	message := binary.BigEndian.AppendUint32(nil, uint32(head))
	return append(append(message, bytesOf(e)...), byte(by))
}

// entryOf is the entry that is right behind others, with a pad that there is.
func entryOf(point uint64, books []api.Book, name string, before []api.Entry, by, pad int, e api.Event) api.Entry {
	head := digestOf(2, point, []byte(name))
	if n := len(before); n > 0 {
		head = before[n-1].Head
	}
	message := messageOf(head, e, by)
	return api.Entry{Event: e, By: by, Pad: pad, Head: digestOf(2, point, message), Tag: tagOf(2, books[by].Point, books[by].Pads[pad], message)}
}

// isUsed reports whether one of some entries has a pad of a book.
func isUsed(l []api.Entry, by, pad int) bool {
	return slices.ContainsFunc(l, func(x api.Entry) bool { return x.By == by && x.Pad == pad })
}

// isRight reports whether an entry is right behind others.
func isRight(point uint64, books []api.Book, name string, before []api.Entry, x api.Entry) bool {
	if !isValid(x.Event) || !canFollow(name, eventsOf(before), x.Event) || x.By < 0 || x.By >= len(books) {
		return false
	}
	if x.Pad < 0 || x.Pad >= len(books[x.By].Pads) || isUsed(before, x.By, x.Pad) {
		return false
	}
	return x == entryOf(point, books, name, before, x.By, x.Pad, x.Event)
}

// wantVerified is what Verify returns.
func wantVerified(point uint64, books []api.Book, name string, l []api.Entry) found {
	if e := errorOf(point, books); e != api.OK {
		return notFound(e)
	}
	if !isName(name) {
		return notFound(api.ErrArg)
	}
	if len(l) > mostEvents {
		return notFound(api.ErrMany)
	}
	for i, x := range l {
		if !isRight(point, books, name, l[:i], x) {
			return wrongAt(i)
		}
	}
	return legal(len(l))
}

// packModel is a pack of a registry.
type packModel struct {
	name    string
	entries []api.Entry
}

// events are the events of a pack.
func (p *packModel) events() []api.Event { return eventsOf(p.entries) }

// modules are the modules of a pack.
func (p *packModel) modules() []string { return modulesOf(p.name, p.events()) }

// canFollow reports whether a valid event can follow.
func (p *packModel) canFollow(e api.Event) bool { return canFollow(p.name, p.events(), e) }

// registryModel is a registry, as the chapter describes it.
type registryModel struct {
	point uint64
	books []api.Book
	packs []packModel
}

// find finds a pack by its name.
func (m *registryModel) find(name string) *packModel {
	for i := range m.packs {
		if m.packs[i].name == name {
			return &m.packs[i]
		}
	}
	return nil
}

// holder finds a pack by one of its modules.
func (m *registryModel) holder(module string) *packModel {
	for i := range m.packs {
		if slices.Contains(m.packs[i].modules(), module) {
			return &m.packs[i]
		}
	}
	return nil
}

// free are the pads of a book that were never used.
func (m *registryModel) free(by int) []int {
	if by < 0 || by >= len(m.books) {
		return nil
	}
	var free []int
	for pad := range m.books[by].Pads {
		if !slices.ContainsFunc(m.packs, func(p packModel) bool { return isUsed(p.entries, by, pad) }) {
			free = append(free, pad)
		}
	}
	return free
}

// add enters an event.
func (m *registryModel) add(p *packModel, by int, e api.Event) {
	p.entries = append(p.entries, entryOf(m.point, m.books, p.name, p.entries, by, m.free(by)[0], e))
}

// enter is Enter.
func (m *registryModel) enter(by int, name string, e api.Event) api.Errno {
	p := m.find(name)
	switch {
	case by < 0 || by >= len(m.books):
		return api.ErrRange
	case !isName(name) || !isValid(e) || e.Kind == api.EventPut || e.Kind == api.EventTake:
		return api.ErrArg
	case e.Kind == api.EventMade && p != nil:
		return api.ErrHave
	case e.Kind == api.EventMade && len(m.packs) == mostPacks:
		return api.ErrFull
	case e.Kind != api.EventMade && p == nil:
		return api.ErrNone
	case e.Kind != api.EventMade && !p.canFollow(e):
		return api.ErrState
	case p != nil && len(p.entries) == mostEvents:
		return api.ErrFull
	case len(m.free(by)) == 0:
		return api.ErrOver
	}
	if e.Kind == api.EventMade {
		m.packs = append(m.packs, packModel{name: name})
	}
	m.add(m.find(name), by, e)
	return api.OK
}

// move is Move.
func (m *registryModel) move(by int, at int64, module, to string) api.Errno {
	from, target := m.holder(module), m.find(to)
	switch {
	case by < 0 || by >= len(m.books):
		return api.ErrRange
	case !isModule(module) || !isName(to) || !isTime(at):
		return api.ErrArg
	case from == nil || target == nil:
		return api.ErrNone
	case from == target || !from.canFollow(take(at, module, to)) || !target.canFollow(put(at, module, from.name)):
		return api.ErrState
	case len(from.entries) == mostEvents || len(target.entries) == mostEvents:
		return api.ErrFull
	case len(m.free(by)) < 2:
		return api.ErrOver
	}
	m.add(from, by, take(at, module, to))
	m.add(target, by, put(at, module, from.name))
	return api.OK
}

// isAffected reports whether a recall affects a pack.
func (m *registryModel) isAffected(p *packModel, batch string, from, to int64, reason string) bool {
	return !isOpen(p.events(), reason) && slices.ContainsFunc(p.modules(), func(module string) bool {
		first := m.find(strings.Split(module, ":")[0]).entries[0].Event
		return first.Name == batch && from <= first.At && first.At <= to
	})
}

// recall is Recall.
func (m *registryModel) recall(by int, at int64, batch string, from, to int64, reason string) ([]string, api.Errno) {
	if by < 0 || by >= len(m.books) {
		return nil, api.ErrRange
	}
	if !isName(batch) || !isName(reason) || !isTime(at) || !isTime(from) || !isTime(to) {
		return nil, api.ErrArg
	}
	var affected []*packModel
	var names []string
	late, isFull := false, false
	for i := range m.packs {
		if p := &m.packs[i]; m.isAffected(p, batch, from, to, reason) {
			affected, names = append(affected, p), append(names, p.name)
			late = late || p.entries[len(p.entries)-1].Event.At > at
			isFull = isFull || len(p.entries) == mostEvents
		}
	}
	switch {
	case late:
		return nil, api.ErrState
	case isFull:
		return nil, api.ErrFull
	case len(m.free(by)) < len(affected):
		return nil, api.ErrOver
	}
	for _, p := range affected {
		m.add(p, by, recall(at, reason))
	}
	return names, api.OK
}

// names are the names of all packs.
func (m *registryModel) names() []string {
	var names []string
	for _, p := range m.packs {
		names = append(names, p.name)
	}
	return names
}

// clone is a copy of the model.
func (m *registryModel) clone() *registryModel {
	c := &registryModel{m.point, m.books, slices.Clone(m.packs)}
	for i, p := range c.packs {
		c.packs[i].entries = slices.Clone(p.entries)
	}
	return c
}

// checkState checks all that a registry tells.
func checkState(t *testing.T, r *passport.Registry, m *registryModel) {
	t.Helper()
	sameList(t, r.Packs(), m.names(), "Packs")
	for i := range m.packs {
		p := &m.packs[i]
		l, e := r.Entries(p.name)
		if !slices.Equal(l, p.entries) || e != api.OK {
			t.Errorf("Entries of %s: %v, %d, not %v", p.name, l, e, p.entries)
		}
		same(t, answerOf(r.Grade(p.name)), good(gradeOf(p.events())), "Grade", p.name)
		for _, module := range p.modules() {
			same(t, answerOf(r.Where(module)), good(p.name), "Where", module)
		}
	}
	for by := -1; by <= len(m.books); by++ {
		same(t, r.Left(by), len(m.free(by)), "Left", by)
	}
}
