package update_test

import (
	"slices"
	"testing"

	"coulomb/api"
	"coulomb/passport"
	"coulomb/protect"
	"coulomb/update"
)

// flashModel is a flash as the chapter describes it.
type flashModel struct {
	raw     []byte
	down    bool
	planned bool
	after   int
	mask    []byte
}

func newFlashModel(pages int) *flashModel { return &flashModel{raw: filled(pageBytes*pages, 255)} }

// clone is a copy of the model.
func (m *flashModel) clone() *flashModel {
	c := *m
	c.raw, c.mask = slices.Clone(m.raw), slices.Clone(m.mask)
	return &c
}

// pages is how many pages there are.
func (m *flashModel) pages() int { return len(m.raw) / pageBytes }

// operate does an operation on the bytes from `at` on, by what it leaves when it is done, and when it is cut, and reports whether it was done.
func (m *flashModel) operate(at int, done, cut []byte) bool {
	if m.down {
		panic("the model does an operation of a flash that is down")
	}
	if m.planned && m.after == 0 {
		for i, x := range cut {
			if i < len(m.mask) {
				x |= m.mask[i]
			}
			m.raw[at+i] = x
		}
		m.down, m.planned, m.mask = true, false, nil
		return false
	}
	m.after--
	copy(m.raw[at:], done)
	return true
}

// erase and program are the operations.
func (m *flashModel) erase(page int) bool {
	at := page * pageBytes
	return m.operate(at, filled(pageBytes, 255), slices.Clone(m.raw[at:at+pageBytes]))
}
func (m *flashModel) program(page, record int, b []byte) bool {
	return m.operate(page*pageBytes+record*16, recordRaw(b), recordRaw(b))
}

// what is what a record is.
func (m *flashModel) what(page, record int) int {
	raw := m.raw[page*pageBytes+record*16:][:16]
	isBlank, isGood := true, true
	for i := 0; i < 16; i += 2 {
		isBlank = isBlank && raw[i] == 255 && raw[i+1] == 255
		isGood = isGood && int(raw[i])+int(raw[i+1]) == 255
	}
	switch {
	case isBlank:
		return api.RecordBlank
	case isGood:
		return api.RecordGood
	}
	return api.RecordTorn
}

// read is what a record holds, and what it is.
func (m *flashModel) read(page, record int) ([]byte, int) {
	what := m.what(page, record)
	if what != api.RecordGood {
		return nil, what
	}
	var held []byte
	for i := range 8 {
		held = append(held, m.raw[page*pageBytes+record*16+2*i])
	}
	return held, what
}

// newest is the newest line of a log, and where it is.
func (m *flashModel) newest(first, pages int) (l api.Line, page, record int) {
	for p := first; p < first+pages; p++ {
		for r := range 8 {
			if b, what := m.read(p, r); what == api.RecordGood {
				if n := uint32(valueOf(b[:4])); n > l.Number {
					l, page, record = api.Line{Number: n, Value: uint32(valueOf(b[4:]))}, p, r
				}
			}
		}
	}
	return l, page, record
}

// valueOf is the number that bytes are.
func valueOf(b []byte) uint64 {
	n := uint64(0)
	for _, x := range b {
		n = 256*n + uint64(x)
	}
	return n
}

// lines are the lines of a log: the first good record with the number of the newest one, with that less by 1, and so on.
func (m *flashModel) lines(first, pages int) []api.Line {
	newest, _, _ := m.newest(first, pages)
	var l []api.Line
	for n := newest.Number; n > 0; n-- {
		v, has := m.line(first, pages, n)
		if !has {
			break
		}
		l = append([]api.Line{{Number: n, Value: v}}, l...)
	}
	return l
}

// line is the value of the first good record with a number.
func (m *flashModel) line(first, pages int, n uint32) (uint32, bool) {
	for p := first; p < first+pages; p++ {
		for r := range 8 {
			if b, what := m.read(p, r); what == api.RecordGood && uint32(valueOf(b[:4])) == n {
				return uint32(valueOf(b[4:])), true
			}
		}
	}
	return 0, false
}

// step is a step to append a value; it reports whether the value is appended, and whether the operation was done.
func (m *flashModel) step(first, pages int, value uint32) (appended, done bool) {
	newest, page, record := m.newest(first, pages)
	from := record + 1
	if newest.Number == 0 {
		page, from = first, 0
	}
	line := number([2]uint64{uint64(newest.Number) + 1, 4}, [2]uint64{uint64(value), 4})
	for r := from; r < 8; r++ {
		if m.what(page, r) == api.RecordBlank {
			done = m.program(page, r, line)
			return done, done
		}
	}
	if newest.Number > 0 {
		page++
		if page == first+pages {
			page = first
		}
	}
	for r := range 8 {
		if m.what(page, r) != api.RecordBlank {
			return false, m.erase(page)
		}
	}
	done = m.program(page, 0, line)
	return done, done
}

// write is Write; it reports whether all was done.
func (m *flashModel) write(first int, im api.Image, b []byte) bool {
	for _, p := range []int{1, 2, 3, 4, 5, 6, 0} {
		if !m.erase(first + p) {
			return false
		}
	}
	if !m.program(first, 0, versionBytes(im)) || !m.program(first, 1, sealBytes(im)) {
		return false
	}
	for k, block := range blocksOf(string(b)) {
		if !m.program(first+1+k/8, k%8, block) {
			return false
		}
	}
	return m.program(first, 2, make([]byte, 8)) && m.program(first, 6, make([]byte, 8))
}

// versionBytes and sealBytes are what the first two records of a slot hold.
func versionBytes(im api.Image) []byte {
	return number([2]uint64{uint64(im.Version), 4}, [2]uint64{uint64(im.Size), 2}, [2]uint64{0, 2})
}
func sealBytes(im api.Image) []byte {
	return number([2]uint64{im.Seal, 4}, [2]uint64{0, 4})
}

// look is what can be read of a slot.
func (m *flashModel) look(first int) api.Slot {
	var s api.Slot
	s.Ready = m.what(first, 2) != api.RecordBlank
	s.Good = m.what(first, 6) != api.RecordBlank
	s.Bad = m.what(first, 7) != api.RecordBlank
	for _, r := range []int{3, 4, 5} {
		if m.what(first, r) != api.RecordBlank {
			s.Trials++
		}
	}
	for p := first; p < first+slotPages; p++ {
		for r := range 8 {
			s.Torn = s.Torn || m.what(p, r) == api.RecordTorn
		}
	}
	a, whatA := m.read(first, 0)
	b, whatB := m.read(first, 1)
	if whatA != api.RecordGood || whatB != api.RecordGood {
		return s
	}
	im := api.Image{Version: int(valueOf(a[:4])), Size: int(valueOf(a[4:6])), Seal: valueOf(b[:4])}
	if im.Version < 1 || im.Version > mostVersion || im.Size < 1 || im.Size > mostSize {
		return s
	}
	s.Set, s.Image = true, im
	for k := 0; 8*k < im.Size; k++ {
		if m.what(first+1+k/8, k%8) != api.RecordGood {
			s.Missing = append(s.Missing, k)
		}
	}
	return s
}

// fits is the guard of a slot, and whether it fits.
func (m *flashModel) fits(first int, key uint64) (api.Guard, bool) {
	s := m.look(first)
	if !s.Set || len(s.Missing) > 0 {
		return api.Guard{}, false
	}
	var l []byte
	for k := 0; 8*k < s.Image.Size; k++ {
		b, _ := m.read(first+1+k/8, k%8)
		l = append(l, b...)
	}
	l = l[:s.Image.Size]
	seal, _ := passport.Digest(api.FieldLarge, key, l)
	g, e := protect.Parse(string(l))
	if seal != s.Image.Seal || e != api.OK {
		return api.Guard{}, false
	}
	return g, true
}

// canRun reports whether a slot can be run.
func (m *flashModel) canRun(first int, key uint64) bool {
	s := m.look(first)
	_, fits := m.fits(first, key)
	return fits && s.Ready && !s.Bad && (s.Good || s.Trials < 3)
}

// twoFlashes are a flash and its model.
type twoFlashes struct {
	t *testing.T
	f *update.Flash
	m *flashModel
}

func newFlashes(t *testing.T, pages int) twoFlashes {
	t.Helper()
	return twoFlashes{t, newFlash(t, pages), newFlashModel(pages)}
}

// clone is a copy of both.
func (x twoFlashes) clone() twoFlashes { return twoFlashes{x.t, x.f.Copy(), x.m.clone()} }

// check compares both.
func (x twoFlashes) check() {
	x.t.Helper()
	same(x.t, x.f.Pages(), x.m.pages(), "Pages")
	same(x.t, x.f.Down(), x.m.down, "Down")
	sameList(x.t, allRaw(x.t, x.f), x.m.raw, "the raw bytes")
}

// checkReads compares what is read of all records.
func (x twoFlashes) checkReads() {
	x.t.Helper()
	for p := range x.m.pages() {
		for r := range 8 {
			b, what, e := x.f.Read(p, r)
			want, wantWhat := x.m.read(p, r)
			if x.m.down {
				same(x.t, e, api.ErrDown, "Read of a flash that is down")
				want, wantWhat, e = nil, 0, api.OK
			}
			sameList(x.t, b, want, "Read", p, r)
			same(x.t, what, wantWhat, "what Read says", p, r, e)
			same(x.t, e, api.OK, "Read", p, r)
		}
	}
}

// errnoOf is OK for what was done, and ErrDown for what was cut.
func errnoOf(done bool) api.Errno {
	if done {
		return api.OK
	}
	return api.ErrDown
}

// down returns whether the flash is down, in which case an operation returns ErrDown.
func (x twoFlashes) down(e api.Errno, what string) bool {
	x.t.Helper()
	if x.m.down {
		same(x.t, e, api.ErrDown, what)
	}
	return x.m.down
}

// erase erases a page that there is.
func (x twoFlashes) erase(page int) {
	x.t.Helper()
	if e := x.f.Erase(page); !x.down(e, "Erase") {
		same(x.t, e, errnoOf(x.m.erase(page)), "Erase", page)
	}
	x.check()
}

// program programs a record that there is.
func (x twoFlashes) program(page, record int, b []byte) {
	x.t.Helper()
	e := x.f.Program(page, record, b)
	switch {
	case x.down(e, "Program"):
	case x.m.what(page, record) != api.RecordBlank:
		same(x.t, e, api.ErrHave, "Program", page, record)
	default:
		same(x.t, e, errnoOf(x.m.program(page, record, b)), "Program", page, record)
	}
	x.check()
}

// cut plans a cut.
func (x twoFlashes) cut(after int, mask []byte) {
	x.t.Helper()
	if e := x.f.Cut(after, mask); !x.down(e, "Cut") {
		same(x.t, e, api.OK, "Cut", after)
		x.m.planned, x.m.after, x.m.mask = true, after, slices.Clone(mask)
	}
	x.check()
}

// restart starts the flash, if it is down.
func (x twoFlashes) restart() {
	x.t.Helper()
	want := api.ErrState
	if x.m.down {
		want = api.OK
	}
	same(x.t, x.f.Restart(), want, "Restart")
	x.m.down = false
	x.check()
}

// append appends a value to a log, or does a step of that.
func (x twoFlashes) append(first, pages int, value uint32, all bool) {
	x.t.Helper()
	var e api.Errno
	got := true
	if all {
		e = update.Append(x.f, first, pages, value)
	} else {
		got, e = update.AppendStep(x.f, first, pages, value)
	}
	if x.down(e, "Append") {
		return
	}
	appended, done := x.m.step(first, pages, value)
	if all && done && !appended {
		appended, done = x.m.step(first, pages, value)
	}
	same(x.t, e, errnoOf(done), "Append", value)
	if !all {
		same(x.t, got, appended, "AppendStep", value)
	}
	x.check()
}

// checkLines compares the lines of a log.
func (x twoFlashes) checkLines(first, pages int) {
	x.t.Helper()
	l, e := update.Lines(x.f, first, pages)
	if x.down(e, "Lines") {
		sameList(x.t, l, nil, "Lines of a flash that is down")
		return
	}
	same(x.t, e, api.OK, "Lines")
	sameList(x.t, l, x.m.lines(first, pages), "Lines", first, pages)
}

// write writes an image.
func (x twoFlashes) write(first int, im api.Image, b []byte) {
	x.t.Helper()
	if e := update.Write(x.f, first, im, b); !x.down(e, "Write") {
		same(x.t, e, errnoOf(x.m.write(first, im, b)), "Write")
	}
	x.check()
}

// checkSlot compares what is read of a slot.
func (x twoFlashes) checkSlot(first int, key uint64) {
	x.t.Helper()
	s, e := update.Look(x.f, first)
	g, can, e2 := update.Guard(x.f, first, key)
	if x.down(e, "Look") && x.down(e2, "Guard") {
		sameSlot(x.t, s, api.Slot{}, "Look at a flash that is down")
		same(x.t, g, api.Guard{}, "Guard of a flash that is down", can)
		same(x.t, can, false, "Guard of a flash that is down")
		return
	}
	same(x.t, e, api.OK, "Look")
	same(x.t, e2, api.OK, "Guard")
	sameSlot(x.t, s, x.m.look(first), "Look", first)
	same(x.t, can, x.m.canRun(first, key), "whether a slot can be run", first, s)
	want := api.Guard{}
	if can {
		want, _ = x.m.fits(first, key)
	}
	same(x.t, g, want, "Guard", first)
}

// sameSlot checks what was read of a slot. (R3)
func sameSlot(t *testing.T, got, want api.Slot, about ...any) {
	t.Helper()
	sameList(t, got.Missing, want.Missing, about, "Missing")
	got.Missing, want.Missing = nil, nil
	same(t, got, want, about...)
}
