package passport

import (
	"slices"

	"coulomb/api"
)

// The scores: of a pack to which nothing has happened, what a fault and a move take away, and from which ones on the grades are given.
const (
	fullScore  = 1000
	faultCosts = 20
	moveCosts  = 5
	scoreA     = 900
	scoreB     = 750
	scoreC     = 600
	scoreD     = 400
)

// What use takes one point away: so many times the capacity that has gone through, and so many hot ticks.
const (
	capacitiesForPoint = 10
	hotTicksForPoint   = 1000
)

// history is what the history of a pack is about, as far as it says what can follow, and what the grade is.
type history struct {
	name     string
	made     api.Event // of the kind 0 as long as the history is empty
	last     int64     // At of the last event
	modules  []string
	open     []string // the reasons
	scrapped bool
	tested   bool
	measured int64 // by the last test
	through  int64
	hot      int64
	faults   int64
	moves    int64
}

// Legal reports whether a history is legal. (P7.4)
func Legal(name string, l []api.Event) (int, bool, api.Errno) {
	_, n, e := readHistory(name, l)
	return n, e == api.OK && n == len(l), e
}

// Modules returns the modules of a history. (P7.5)
func Modules(name string, l []api.Event) ([]string, api.Errno) {
	h, e := legalHistory(name, l)
	if e != api.OK {
		return nil, e
	}
	return h.modules, api.OK
}

// Score returns the score of a history. (P7.5)
func Score(name string, l []api.Event) (int64, api.Errno) {
	h, e := begunHistory(name, l)
	if e != api.OK {
		return 0, e
	}
	return h.score(), api.OK
}

// Grade returns the grade of a history. (P7.5)
func Grade(name string, l []api.Event) (int, api.Errno) {
	h, e := begunHistory(name, l)
	if e != api.OK {
		return 0, e
	}
	return h.grade(), api.OK
}

// begunHistory returns what a legal history that is not empty is about.
func begunHistory(name string, l []api.Event) (*history, api.Errno) {
	h, e := legalHistory(name, l)
	if e != api.OK {
		return nil, e
	}
	if len(l) == 0 {
		return nil, api.ErrNone
	}
	return h, api.OK
}

// legalHistory returns what a legal history is about.
func legalHistory(name string, l []api.Event) (*history, api.Errno) {
	h, n, e := readHistory(name, l)
	if e != api.OK {
		return nil, e
	}
	if n < len(l) {
		return nil, api.ErrState
	}
	return h, api.OK
}

// readHistory returns what a history is about up to the first event that cannot follow, and how many events that are.
func readHistory(name string, l []api.Event) (*history, int, api.Errno) {
	if !isName(name) {
		return nil, 0, api.ErrArg
	}
	if len(l) > api.MaxEvents {
		return nil, 0, api.ErrMany
	}
	h := &history{name: name}
	for i, e := range l {
		if !isValid(e) || !h.follows(e) {
			return h, i, api.OK
		}
		h.add(e)
	}
	return h, len(l), api.OK
}

// follows reports whether an event that is valid can follow.
func (h *history) follows(e api.Event) bool {
	if h.made.Kind == 0 {
		return e.Kind == api.EventMade
	}
	if e.At < h.last || h.scrapped {
		return false
	}
	rule, has := h.rules()[e.Kind]
	return !has || rule(e)
}

// rules returns for kinds of events whether one can follow a history that has begun, and is not over; those of the other kinds always can.
func (h *history) rules() map[int]func(e api.Event) bool {
	return map[int]func(e api.Event) bool{
		api.EventMade: func(api.Event) bool { return false },
		api.EventPut: func(e api.Event) bool {
			return !h.has(e.Name) && len(h.modules) < api.MaxModules && e.Other != h.name
		},
		api.EventTake:   func(e api.Event) bool { return h.has(e.Name) && e.Other != h.name },
		api.EventRecall: func(e api.Event) bool { return !h.isOpen(e.Name) },
		api.EventClear:  func(e api.Event) bool { return h.isOpen(e.Name) },
		api.EventScrap:  func(api.Event) bool { return len(h.modules) == 0 },
	}
}

// add adds an event that can follow.
func (h *history) add(e api.Event) {
	h.last = e.At
	switch e.Kind {
	case api.EventMade:
		h.made = e
		for n := range int(e.B) {
			h.modules = append(h.modules, moduleOf(h.name, n))
		}
	case api.EventUse:
		h.through += e.A
		h.hot += e.B
	case api.EventTest:
		h.tested, h.measured = true, e.A
	case api.EventFault:
		h.faults++
	case api.EventPut:
		h.moves++
		h.modules = append(h.modules, e.Name)
	case api.EventTake:
		h.moves++
		h.modules = without(h.modules, e.Name)
	case api.EventRecall:
		h.open = append(h.open, e.Name)
	case api.EventClear:
		h.open = without(h.open, e.Name)
	case api.EventScrap:
		h.scrapped = true
	}
}

// has reports whether a module is one of the modules.
func (h *history) has(module string) bool { return slices.Contains(h.modules, module) }

// isOpen reports whether a reason is open.
func (h *history) isOpen(reason string) bool { return slices.Contains(h.open, reason) }

// score returns the score of a history that has begun.
func (h *history) score() int64 {
	used := h.through/(capacitiesForPoint*h.made.A) + h.hot/hotTicksForPoint
	return max(0, fullScore-h.lost()-used-faultCosts*h.faults-moveCosts*h.moves)
}

// lost returns what the last test takes away.
func (h *history) lost() int64 {
	if !h.tested {
		return 0
	}
	return max(0, fullScore-h.measured*fullScore/h.made.A)
}

// grade returns the grade of a history that has begun.
func (h *history) grade() int {
	if h.scrapped {
		return api.GradeScrap
	}
	if len(h.open) > 0 {
		return api.GradeRecall
	}
	switch score := h.score(); {
	case score >= scoreA:
		return api.GradeA
	case score >= scoreB:
		return api.GradeB
	case score >= scoreC:
		return api.GradeC
	case score >= scoreD:
		return api.GradeD
	}
	return api.GradeE
}

// without returns a list without a text, in the memory of the list.
func without(l []string, s string) []string {
	return slices.DeleteFunc(l, func(x string) bool { return x == s })
}
