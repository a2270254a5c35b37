package passport

import (
	"slices"

	"coulomb/api"
)

// Registry keeps the passports of packs.
type Registry struct {
	self *Registry // one that was not made here does not point to itself, and is not valid
	secrets
	used  []int // how many pads of each book are used: the first ones
	packs []*pack
}

// NewRegistry returns a registry. (P7.7)
func NewRegistry(point uint64, books []api.Book) (*Registry, api.Errno) {
	s := secrets{point, books}
	if e := s.check(); e != api.OK {
		return nil, e
	}
	return newRegistry(s, make([]int, len(books)), nil), api.OK
}

// Copy returns an independent copy. (P7.7)
func (r *Registry) Copy() *Registry {
	if !r.valid() {
		return nil
	}
	return newRegistry(r.secrets, r.used, r.packs)
}

// Enter enters an event. (P7.8)
func (r *Registry) Enter(by int, name string, e api.Event) api.Errno {
	if !r.valid() {
		return api.ErrNil
	}
	if !r.hasBook(by) {
		return api.ErrRange
	}
	if !isName(name) || !isValid(e) || e.Kind == api.EventPut || e.Kind == api.EventTake {
		return api.ErrArg
	}
	p := r.find(name)
	if errno := r.admits(p, e); errno != api.OK {
		return errno
	}
	if r.Left(by) < 1 {
		return api.ErrOver
	}
	if p == nil {
		p = newPack(name)
		r.packs = append(r.packs, p)
	}
	r.enter(p, by, e)
	return api.OK
}

// Move moves a module into another pack. (P7.9)
func (r *Registry) Move(by int, at int64, module, to string) api.Errno {
	if !r.valid() {
		return api.ErrNil
	}
	if !r.hasBook(by) {
		return api.ErrRange
	}
	if !isModule(module) || !isName(to) || !isTime(at) {
		return api.ErrArg
	}
	giver, taker := r.holder(module), r.find(to)
	if giver == nil || taker == nil {
		return api.ErrNone
	}
	take := api.Event{Kind: api.EventTake, At: at, Name: module, Other: to}
	put := api.Event{Kind: api.EventPut, At: at, Name: module, Other: giver.name}
	if !giver.follows(take) || !taker.follows(put) { // nothing follows if both are the same pack
		return api.ErrState
	}
	if giver.isFull() || taker.isFull() {
		return api.ErrFull
	}
	if r.Left(by) < 2 {
		return api.ErrOver
	}
	r.enter(giver, by, take)
	r.enter(taker, by, put)
	return api.OK
}

// Recall recalls the modules of a batch. (P7.10)
func (r *Registry) Recall(by int, at int64, batch string, from, to int64, reason string) ([]string, api.Errno) {
	if !r.valid() {
		return nil, api.ErrNil
	}
	if !r.hasBook(by) {
		return nil, api.ErrRange
	}
	if !isName(batch) || !isName(reason) || !isTime(at) || !isTime(from) || !isTime(to) {
		return nil, api.ErrArg
	}
	affected := r.affected(batch, api.Span{Lo: from, Hi: to}, reason)
	if slices.ContainsFunc(affected, func(p *pack) bool { return at < p.last }) {
		return nil, api.ErrState
	}
	if slices.ContainsFunc(affected, (*pack).isFull) {
		return nil, api.ErrFull
	}
	if r.Left(by) < len(affected) {
		return nil, api.ErrOver
	}
	for _, p := range affected { // each of them has modules, so that none is scrapped
		r.enter(p, by, api.Event{Kind: api.EventRecall, At: at, Name: reason})
	}
	return namesOf(affected), api.OK
}

// Packs returns the names of all packs. (P7.11)
func (r *Registry) Packs() []string {
	if !r.valid() {
		return nil
	}
	return namesOf(r.packs)
}

// Entries returns the entries of a pack. (P7.11)
func (r *Registry) Entries(name string) ([]api.Entry, api.Errno) {
	if !r.valid() {
		return nil, api.ErrNil
	}
	p := r.find(name)
	if p == nil {
		return nil, api.ErrNone
	}
	return slices.Clone(p.entries), api.OK
}

// Where returns the pack in which a module is. (P7.11)
func (r *Registry) Where(module string) (string, api.Errno) {
	if !r.valid() {
		return "", api.ErrNil
	}
	if !isModule(module) {
		return "", api.ErrArg
	}
	p := r.holder(module)
	if p == nil {
		return "", api.ErrNone
	}
	return p.name, api.OK
}

// Grade returns the grade of a pack. (P7.11)
func (r *Registry) Grade(name string) (int, api.Errno) {
	if !r.valid() {
		return 0, api.ErrNil
	}
	p := r.find(name)
	if p == nil {
		return 0, api.ErrNone
	}
	return p.grade(), api.OK
}

// Left returns how many pads a book has left. (P7.11)
func (r *Registry) Left(by int) int {
	if !r.valid() || !r.hasBook(by) {
		return 0
	}
	return len(r.books[by].Pads) - r.used[by]
}

// newRegistry returns a registry that shares no memory with what it is made of.
func newRegistry(s secrets, used []int, packs []*pack) *Registry {
	r := &Registry{secrets: secrets{s.point, slices.Clone(s.books)}, used: slices.Clone(used)}
	for i, b := range r.books {
		r.books[i].Pads = slices.Clone(b.Pads)
	}
	for _, p := range packs {
		r.packs = append(r.packs, p.clone())
	}
	r.self = r
	return r
}

// valid reports whether a registry was made by a function of this package.
func (r *Registry) valid() bool { return r != nil && r.self == r }

// find returns the pack with a name; nil if there is none.
func (r *Registry) find(name string) *pack {
	return firstOf(r.packs, func(p *pack) bool { return p.name == name })
}

// holder returns the pack in which a module is; nil if it is in none.
func (r *Registry) holder(module string) *pack {
	return firstOf(r.packs, func(p *pack) bool { return p.has(module) })
}

// admits says why an event cannot be entered in a pack, which is nil if there is none with this name.
func (r *Registry) admits(p *pack, e api.Event) api.Errno {
	isMade := e.Kind == api.EventMade
	switch {
	case isMade && p != nil:
		return api.ErrHave
	case isMade && len(r.packs) >= api.MaxPacks:
		return api.ErrFull
	case isMade:
		return api.OK
	case p == nil:
		return api.ErrNone
	case !p.follows(e):
		return api.ErrState
	case p.isFull():
		return api.ErrFull
	}
	return api.OK
}

// enter enters an event that can follow, by a book that has a pad left.
func (r *Registry) enter(p *pack, by int, e api.Event) {
	p.enter(r.entry(p, use{by, r.used[by]}, e))
	r.used[by]++
}

// affected returns the packs that a recall affects.
func (r *Registry) affected(batch string, times api.Span, reason string) []*pack {
	var found []*pack
packs:
	for _, p := range r.packs {
		if p.isOpen(reason) {
			continue
		}
		for _, m := range p.modules {
			if r.find(originOf(m)).wasMade(batch, times) { // all modules come from packs of this registry
				found = append(found, p)
				continue packs
			}
		}
	}
	return found
}

// namesOf returns the names of packs.
func namesOf(packs []*pack) []string {
	var names []string
	for _, p := range packs {
		names = append(names, p.name)
	}
	return names
}

// firstOf returns the first pack that is so; nil if there is none.
func firstOf(packs []*pack, so func(p *pack) bool) *pack {
	if i := slices.IndexFunc(packs, so); i >= 0 {
		return packs[i]
	}
	return nil
}
