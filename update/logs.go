package update

import (
	"iter"
	"math"
	"slices"

	"coulomb/api"
)

// fewestPages is how many pages a log has at least: one is erased while another one has the newest line.
const fewestPages = 2

// mostSteps is how many steps a value takes: one may erase a page, and the next one appends it.
const mostSteps = 2

// log is a log on some pages of a flash.
type log struct {
	*Flash
	first, count int
}

// Lines returns the lines of a log. (P10.4)
func Lines(f *Flash, first, pages int) ([]api.Line, api.Errno) {
	l := log{f, first, pages}
	if e := l.check(); e != api.OK {
		return nil, e
	}
	values := map[uint32]uint32{}
	for _, x := range l.all() {
		if _, has := values[x.Number]; !has { // the first one of several counts
			values[x.Number] = x.Value
		}
	}
	var lines []api.Line
	newest, _ := l.newest()
	for n := newest.Number; n > 0; n-- {
		v, has := values[n]
		if !has {
			break
		}
		lines = append(lines, api.Line{Number: n, Value: v})
	}
	slices.Reverse(lines)
	return lines, api.OK
}

// AppendStep does a step to append a value. (P10.5)
func AppendStep(f *Flash, first, pages int, value uint32) (bool, api.Errno) {
	l := log{f, first, pages}
	if e := l.checkAppend(); e != api.OK {
		return false, e
	}
	done := false
	e := attempt(func() { done = l.step(value) })
	return done, e
}

// Append appends a value. (P10.5)
func Append(f *Flash, first, pages int, value uint32) api.Errno {
	l := log{f, first, pages}
	if e := l.checkAppend(); e != api.OK {
		return e
	}
	return attempt(func() {
		for range mostSteps {
			if l.step(value) {
				return
			}
		}
	})
}

// check returns the errors of a log.
func (l log) check() api.Errno {
	if l.valid() && !isFrom(l.count, fewestPages, api.MaxLogPages) {
		return api.ErrRange
	}
	return l.checkPages(l.first, l.count)
}

// checkAppend returns the errors of a log to which something is to be appended.
func (l log) checkAppend() api.Errno {
	if e := l.check(); e != api.OK {
		return e
	}
	if newest, _ := l.newest(); newest.Number == math.MaxUint32 {
		return api.ErrOver
	}
	return api.OK
}

// all yields what the good records hold as lines, and where that is.
func (l log) all() iter.Seq2[place, api.Line] {
	return func(yield func(place, api.Line) bool) {
		for at, r := range l.records(l.first, l.count) {
			if r.kind() != api.RecordGood {
				continue
			}
			n := numberOf(r.held())
			if !yield(at, api.Line{Number: uint32(n >> upperHalf), Value: uint32(n)}) {
				return
			}
		}
	}
}

// newest returns the newest line, and where it is. If there is none, its number is 0, and the place is in front of the first page's records.
func (l log) newest() (api.Line, place) {
	newest, where := api.Line{}, place{l.first, -1}
	for at, x := range l.all() {
		if x.Number > newest.Number {
			newest, where = x, at
		}
	}
	return newest, where
}

// step does a step to append a value, and reports whether it was appended.
func (l log) step(value uint32) bool {
	newest, where := l.newest()
	at, some := l.free(where.page, where.record+1)
	if !some {
		next := l.first
		if newest.Number > 0 {
			next += (where.page - l.first + 1) % l.count
		}
		if !l.isErased(next) {
			l.erase(next)
			return false
		}
		at = place{next, 0}
	}
	l.program(at, bytesOf(uint64(newest.Number+1)<<upperHalf|uint64(value)))
	return true
}

// free returns the first blank record of a page from one of its records on, if there is one.
func (l log) free(page, record int) (place, bool) {
	for at, r := range l.records(page, 1) {
		if at.record >= record && r.isBlank() {
			return at, true
		}
	}
	return place{}, false
}

// isErased reports whether all records of a page are blank.
func (l log) isErased(page int) bool { return l.pages[page] == blankPage() }
