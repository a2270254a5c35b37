package update

import (
	"slices"

	"coulomb/api"
)

// mostAfter is how many operations there may be before a cut.
const mostAfter = 1000

// cutOff is the panic that ends an operation that is cut, and all that was to follow.
const cutOff = "the operation is cut"

// Flash is a flash whose operations can be cut.
type Flash struct {
	self  *Flash // one that was not made here does not point to itself, and is not valid
	pages []page
	down  bool
	cut   cut
}

// cut is how an operation is cut, if that is planned.
type cut struct {
	planned bool
	after   int
	mask    page // from its first byte on, whatever the operation is about
}

// NewFlash returns a flash. (P10.1)
func NewFlash(pages int) (*Flash, api.Errno) {
	if !isFrom(pages, 1, api.MaxPages) {
		return nil, api.ErrRange
	}
	return newFlash(slices.Repeat([]page{blankPage()}, pages)), api.OK
}

// Pages returns the number of pages. (P10.1)
func (f *Flash) Pages() int {
	if !f.valid() {
		return 0
	}
	return len(f.pages)
}

// Raw returns the raw bytes of a page. (P10.1)
func (f *Flash) Raw(page int) ([]byte, api.Errno) {
	if !f.valid() {
		return nil, api.ErrNil
	}
	if !f.has(page, 1) {
		return nil, api.ErrRange
	}
	return slices.Clone(f.pages[page][:]), api.OK
}

// Read returns what a record holds, and what it is. (P10.2)
func (f *Flash) Read(page, record int) ([]byte, int, api.Errno) {
	if e := f.checkRecord(page, record); e != api.OK {
		return nil, 0, e
	}
	if f.down {
		return nil, 0, api.ErrDown
	}
	r := f.record(place{page, record})
	if r.kind() != api.RecordGood {
		return nil, r.kind(), api.OK
	}
	return r.held(), api.RecordGood, api.OK
}

// Erase erases a page. (P10.2)
func (f *Flash) Erase(page int) api.Errno {
	if e := f.checkPages(page, 1); e != api.OK {
		return e
	}
	return attempt(func() { f.erase(page) })
}

// Program programs a record. (P10.2)
func (f *Flash) Program(page, record int, b []byte) api.Errno {
	if e := f.checkRecord(page, record); e != api.OK {
		return e
	}
	if len(b) != api.RecordBytes {
		return api.ErrArg
	}
	if f.down {
		return api.ErrDown
	}
	at := place{page, record}
	if !f.isBlank(at) {
		return api.ErrHave
	}
	return attempt(func() { f.program(at, b) })
}

// Cut plans a cut. (P10.3)
func (f *Flash) Cut(after int, mask []byte) api.Errno {
	if !f.valid() {
		return api.ErrNil
	}
	if !isFrom(after, 0, mostAfter) {
		return api.ErrRange
	}
	if len(mask) > pageBytes {
		return api.ErrLong
	}
	if f.down {
		return api.ErrDown
	}
	f.plan(after, mask)
	return api.OK
}

// Restart starts a flash that is down. (P10.3)
func (f *Flash) Restart() api.Errno {
	if !f.valid() {
		return api.ErrNil
	}
	if !f.down {
		return api.ErrState
	}
	f.down = false
	return api.OK
}

// Down reports whether a flash is down. (P10.1)
func (f *Flash) Down() bool { return f.valid() && f.down }

// Copy returns an independent copy. (P10.1)
func (f *Flash) Copy() *Flash {
	if !f.valid() {
		return nil
	}
	c := newFlash(slices.Clone(f.pages))
	c.down, c.cut = f.down, f.cut
	return c
}

// newFlash returns a flash with some pages.
func newFlash(pages []page) *Flash {
	f := &Flash{pages: pages}
	f.self = f
	return f
}

// valid reports whether a flash was made by a function of this package.
func (f *Flash) valid() bool { return f != nil && f.self == f }

// has reports whether a flash has some pages, one after another.
func (f *Flash) has(first, pages int) bool { return isFrom(first, 0, len(f.pages)-pages) }

// checkPages returns the errors of what is on some pages.
func (f *Flash) checkPages(first, pages int) api.Errno {
	if !f.valid() {
		return api.ErrNil
	}
	if !f.has(first, pages) {
		return api.ErrRange
	}
	if f.down {
		return api.ErrDown
	}
	return api.OK
}

// checkRecord returns ErrNil, and the errors of a place.
func (f *Flash) checkRecord(page, record int) api.Errno {
	if !f.valid() {
		return api.ErrNil
	}
	if !f.has(page, 1) || !isFrom(record, 0, api.PageRecords-1) {
		return api.ErrRange
	}
	return api.OK
}

// plan plans a cut.
func (f *Flash) plan(after int, mask []byte) {
	f.cut = cut{planned: true, after: after}
	copy(f.cut.mask[:], mask)
}

// erase is the operation that erases a page.
func (f *Flash) erase(at int) {
	blank, p := blankPage(), &f.pages[at]
	f.change(p[:], blank[:], p[:])
}

// program is the operation that programs a record, which is blank.
func (f *Flash) program(at place, b []byte) {
	r := rawOf(b)
	f.change(f.record(at), r, r)
}

// change does an operation: it leaves raw bytes done, or, if it is cut, what of that is left, with the bits of the mask.
func (f *Flash) change(bytes, done, left []byte) {
	if f.cut.planned && f.cut.after == 0 {
		for i := range bytes {
			bytes[i] = left[i] | f.cut.mask[i]
		}
		f.down, f.cut = true, cut{}
		panic(cutOff)
	}
	if f.cut.planned {
		f.cut.after--
	}
	copy(bytes, done)
}
