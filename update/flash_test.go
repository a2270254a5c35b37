package update_test

import (
	"slices"
	"testing"

	"coulomb/api"
	"coulomb/update"
)

// P10.1
func TestNewFlash(t *testing.T) {
	for pages := 1; pages <= mostPages; pages++ {
		f := newFlash(t, pages)
		same(t, f.Pages(), pages, "Pages")
		same(t, f.Down(), false, "Down")
		sameList(t, allRaw(t, f), filled(pages*pageBytes, 255), "the raw bytes at first")
	}
	for _, pages := range append(wildInts(), 0) {
		f, e := update.NewFlash(pages)
		same(t, f, nil, "NewFlash", pages)
		same(t, e, api.ErrRange, "NewFlash", pages)
	}
}

// P10.1: the pages that there are have raw bytes, also if the flash is down.
func TestRaw(t *testing.T) {
	for _, pages := range []int{1, 2, 64} {
		x := newFlashes(t, pages)
		for p := range pages {
			x.program(p, p%8, eight(byte(p)))
		}
		x.cut(0, nil)
		for range 2 {
			for _, p := range append(wildInts(), pages, pages+1) {
				b, e := x.f.Raw(p)
				sameList(t, b, nil, "Raw", p)
				same(t, e, api.ErrRange, "Raw", p)
			}
			x.check()
			x.erase(0) // it is down then
		}
		same(t, x.f.Down(), true, "Down")
	}
}

// P10.2: a record holds any bytes, each of them in two raw bytes.
func TestRecords(t *testing.T) {
	r := chance(1)
	x := newFlashes(t, 3)
	for i := range 256 {
		page, record := r.Intn(3), r.Intn(8)
		x.erase(page)
		b := drawBytes(r, 8)
		b[i%8], b[(i+3)%8] = byte(i), 255
		x.program(page, record, b)
		raw := rawOf(t, x.f, page)[16*record:][:16]
		for k := range 8 {
			same(t, [2]byte(raw[2*k:]), [2]byte{b[k], 255 - b[k]}, "raw bytes", k)
		}
		got, what, e := x.f.Read(page, record)
		sameList(t, got, b, "Read", b)
		same(t, what, api.RecordGood, "what Read says", e)
		x.checkReads()
	}
}

// P10.2: what a record is, by its raw bytes, each bit of which may have been cut.
func TestWhatARecordIs(t *testing.T) {
	b := []byte{0, 255, 15, 240, 1, 2, 3, 4}
	for bit := range 128 {
		x := newFlashes(t, 1)
		mask := make([]byte, 16)
		mask[bit/8] = 1 << (bit % 8)
		x.cut(0, mask)
		x.program(0, 5, b)
		x.restart()
		x.checkReads()
		got, what, e := x.f.Read(0, 5)
		if recordRaw(b)[bit/8]&mask[bit/8] > 0 { // the bit was there
			sameList(t, got, b, "Read", bit)
			same(t, what, api.RecordGood, "what Read says", bit, e)
		} else {
			sameList(t, got, nil, "Read", bit)
			same(t, what, api.RecordTorn, "what Read says", bit, e)
		}
		x.program(0, 5, b)
		x.erase(0)
		x.cut(0, mask)
		x.erase(0) // of a page that is blank: it stays so
		x.restart()
		same(t, x.m.what(0, 5), api.RecordBlank, "what a blank record is behind an erasure that was cut")
		x.checkReads()
	}
}

// P10.2: a record is blank, or good, as a whole.
func TestRecordsThatAreAlmostBlank(t *testing.T) {
	for k := range 16 {
		x := newFlashes(t, 1)
		mask := filled(16, 255)
		mask[k] = 254
		x.cut(0, mask)
		x.program(0, 0, make([]byte, 8))
		x.restart()
		want := api.RecordTorn
		if k%2 == 1 { // the raw byte 255 is 255 anyway
			want = api.RecordBlank
		}
		_, what, e := x.f.Read(0, 0)
		same(t, what, want, "what a record is, with the raw byte", k, e)
		x.program(0, 0, eight(7))
		x.program(0, 1, eight(8))
		x.checkReads()
	}
}

// P10.2: a record that is not blank is not programmed.
func TestProgramOfARecordThatIsThere(t *testing.T) {
	x := newFlashes(t, 2)
	x.program(1, 3, eight(1))
	tear(t, x.f, 1, 4)
	copy(x.m.raw[pageBytes+4*16:], []byte{255, 255, 2, 253, 3, 252, 4, 251, 5, 250, 6, 249, 7, 248, 8, 247})
	x.check()
	for _, b := range [][]byte{eight(1), eight(2), filled(8, 255), make([]byte, 8)} {
		for _, record := range []int{3, 4} {
			same(t, x.f.Program(1, record, b), api.ErrHave, "Program", record)
			x.check()
		}
	}
	x.program(1, 5, eight(3))
	x.erase(1)
	x.program(1, 3, eight(4))
	x.program(1, 4, eight(5))
	x.checkReads()
}

// P10.2: to erase a page changes no other one.
func TestEraseOfOnePage(t *testing.T) {
	for page := range 3 {
		x := newFlashes(t, 3)
		for p := range 3 {
			for r := range 8 {
				x.program(p, r, eight(byte(10*p+r)))
			}
		}
		x.erase(page)
		x.erase(page)
		sameList(t, rawOf(t, x.f, page), filled(pageBytes, 255), "a page that is erased")
		same(t, x.m.what((page+1)%3, 7), api.RecordGood, "a record of another page")
	}
}

// P10.2, R1: the errors of a place, of a number of bytes, of a flash that is down, and of a record that is there, in this order.
func TestErrorsOfOperations(t *testing.T) {
	for _, down := range []bool{false, true} {
		x := newFlashes(t, 3)
		x.program(1, 1, eight(1))
		if down {
			x.cut(0, nil)
			x.erase(0)
		}
		for _, p := range append(wildInts(), 3) {
			for _, r := range append(wildInts(), 0, 8) {
				checkPlace(t, x.f, p, r)
			}
		}
		for _, r := range append(wildInts(), 8, 9, 63) {
			checkPlace(t, x.f, 1, r)
		}
		for _, n := range []int{0, 1, 7, 9, 16, 1000} {
			for r := range 2 {
				same(t, x.f.Program(1, r, make([]byte, n)), api.ErrArg, "Program of bytes", n)
			}
		}
		want := errs(api.OK, api.OK, api.ErrHave, api.OK, api.OK)
		if down {
			want = errs(api.ErrDown, api.ErrDown, api.ErrDown, api.ErrDown, api.ErrDown)
		}
		b, what, e := x.f.Read(1, 1)
		same(t, down, len(b) == 0 && what == 0, "whether Read returns nothing", b, what)
		_, _, e1 := x.f.Read(1, 0)
		same(t, errs(e, e1, x.f.Program(1, 1, eight(1)), x.f.Program(1, 2, eight(1)), x.f.Erase(2)), want, "Read, Program, Erase; down", down)
	}
}

// checkPlace checks the errors of a place that there is not.
func checkPlace(t *testing.T, f *update.Flash, p, r int) {
	t.Helper()
	b, what, e := f.Read(p, r)
	sameList(t, b, nil, "Read", p, r)
	same(t, what, 0, "Read", p, r)
	same(t, e, api.ErrRange, "Read", p, r)
	for _, n := range []int{8, 7, 0} {
		same(t, f.Program(p, r, make([]byte, n)), api.ErrRange, "Program", p, r)
	}
	if p != 1 {
		same(t, f.Erase(p), api.ErrRange, "Erase", p)
	}
}

// P10.3
func TestErrorsOfCut(t *testing.T) {
	for _, down := range []bool{false, true} {
		x := newFlashes(t, 2)
		if down {
			x.cut(0, nil)
			x.erase(0)
		}
		want := api.OK
		if down {
			want = api.ErrDown
		}
		for _, after := range []int{0, 1, 999, mostAfter} {
			for _, n := range []int{0, 1, 16, 127, pageBytes} {
				same(t, x.f.Cut(after, make([]byte, n)), want, "Cut", after, n)
			}
			for _, n := range []int{pageBytes + 1, 1000} {
				same(t, x.f.Cut(after, make([]byte, n)), api.ErrLong, "Cut", after, n)
			}
		}
		for _, after := range append(wildInts(), mostAfter+1) {
			if after == mostPages+1 {
				continue
			}
			for _, n := range []int{0, pageBytes + 1} {
				same(t, x.f.Cut(after, make([]byte, n)), api.ErrRange, "Cut", after, n)
			}
		}
	}
}

// P10.3: a cut that was refused does not change the one that was planned.
func TestCutsThatAreRefused(t *testing.T) {
	x := newFlashes(t, 2)
	x.cut(1, []byte{1})
	same(t, x.f.Cut(-1, nil), api.ErrRange, "Cut")
	same(t, x.f.Cut(5, make([]byte, 129)), api.ErrLong, "Cut")
	for r := range 2 {
		x.program(0, r, eight(0))
	}
	same(t, x.f.Down(), true, "Down")
	same(t, x.f.Cut(5, nil), api.ErrDown, "Cut of a flash that is down")
	x.restart()
	for r := 2; r < 8; r++ {
		x.program(0, r, eight(0))
	}
	same(t, x.f.Down(), false, "Down, without a cut")
}

// P10.3: as many operations are done as usual as `after` says; what is no operation does not count.
func TestAfter(t *testing.T) {
	for _, after := range []int{0, 1, 2, 3, 10, 999, mostAfter} {
		x := newFlashes(t, 2)
		x.program(1, 7, eight(1))
		x.cut(after, filled(16, 255))
		for i := range after {
			x.checkReads()
			for _, e := range []api.Errno{x.f.Program(1, 7, eight(2)), x.f.Program(0, 9, eight(2)), x.f.Program(0, 0, nil), x.f.Erase(2), x.f.Erase(-1), x.f.Restart()} {
				same(t, e == api.OK, false, "whether something else is done")
			}
			if i%9 == 0 {
				x.erase(0)
			} else {
				x.program(0, i%9-1, eight(byte(i)))
			}
		}
		same(t, x.f.Down(), false, "Down, before the cut", after)
		x.erase(1)
		same(t, x.f.Down(), true, "Down, behind the cut", after)
		x.checkReads()
		x.restart()
		for range 3 {
			x.erase(0)
		}
		same(t, x.f.Down(), false, "Down, when the cut is over", after)
	}
}

// P10.3: a cut that is planned takes the place of the one before it.
func TestCutInsteadOfACut(t *testing.T) {
	for _, first := range []int{0, 1, 5} {
		x := newFlashes(t, 1)
		x.cut(first, filled(128, 255))
		x.cut(2, []byte{0, 3})
		x.program(0, 0, eight(1))
		x.program(0, 1, eight(1))
		same(t, x.f.Down(), false, "Down")
		x.program(0, 2, eight(1))
		same(t, x.f.Down(), true, "Down")
		x.restart()
		for r := 3; r < 8; r++ {
			x.program(0, r, eight(1))
		}
		x.checkReads()
	}
}

// P10.3: the mask is bit by bit, from its first byte on, for pages and for records; where it has no more bytes, they are 0.
func TestMasks(t *testing.T) {
	r := chance(2)
	for range 300 {
		for _, n := range []int{0, 1, 5, 15, 16, 17, 100, 127, 128} {
			x := newFlashes(t, 2)
			for i := range 7 {
				x.program(1, i, drawBytes(r, 8))
			}
			x.cut(0, drawBytes(r, n))
			if r.Intn(2) == 0 {
				x.erase(1)
			} else {
				x.program(1, 7, drawBytes(r, 8))
			}
			same(t, x.f.Down(), true, "Down")
			x.restart()
			x.checkReads()
		}
	}
}

// P10.3: restart of what is not down.
func TestRestart(t *testing.T) {
	x := newFlashes(t, 1)
	x.restart()
	x.cut(0, nil)
	x.restart()
	x.erase(0)
	x.restart()
	x.restart()
	x.program(0, 0, eight(1))
	x.restart()
	x.check()
}

// P10.1, R4: a copy is in the same state, also with the same cut planned, and independent.
func TestCopiesOfAFlash(t *testing.T) {
	for _, first := range []bool{true, false} { // which one goes on
		for after := range 3 {
			x := newFlashes(t, 2)
			x.program(0, 0, eight(1))
			x.cut(after, []byte{7, 8, 9})
			c := x.clone()
			if !first {
				x, c = c, x
			}
			for r := 1; r < 5; r++ {
				x.program(0, r, eight(2))
			}
			same(t, x.f.Down(), true, "Down")
			c.check()
			d := x.clone()
			for r := 1; r < 5; r++ {
				c.program(1, r, eight(3))
			}
			x.restart()
			x.erase(0)
			d.check()
			d.checkReads()
			d.restart()
			d.program(0, 5, eight(5))
			x.check()
			c.check()
			d.check()
		}
	}
}

// P10.1 to P10.3: anything is done with a flash.
func TestDrawnFlashes(t *testing.T) {
	r := chance(3)
	for range 60 {
		x := newFlashes(t, 1+r.Intn(3))
		for range 150 {
			page, record := r.Intn(x.m.pages()), r.Intn(8)
			switch r.Intn(9) {
			case 0, 1, 2, 3:
				x.program(page, record, drawBytes(r, 8))
			case 4:
				x.erase(page)
			case 5:
				x.cut(r.Intn(4), drawMask(r))
			case 6:
				x.restart()
			case 7:
				x.checkReads()
			case 8:
				if c := x.clone(); r.Intn(2) == 0 {
					x.program(page, record, drawBytes(r, 8))
					x = c
				}
			}
		}
	}
}

// P10.15: however an operation is cut, a record holds what it held before, or what was to be programmed, or it is blank, or torn.
func TestTorn(t *testing.T) {
	r := chance(15)
	var seen [3]int
	for range 4000 {
		f := newFlash(t, 2)
		var before [8][]byte
		for i := range 8 {
			if r.Intn(3) > 0 {
				b := pick(r, drawBytes(r, 8), make([]byte, 8), filled(8, 255))
				program(t, f, 0, i, b)
				before[i] = b
			}
		}
		same(t, f.Cut(0, drawMask(r)), api.OK, "Cut")
		b, at := drawBytes(r, 8), -1
		if i := r.Intn(8); r.Intn(2) == 0 && before[i] == nil {
			at = i
			same(t, f.Program(0, i, b), api.ErrDown, "Program")
		} else {
			same(t, f.Erase(0), api.ErrDown, "Erase")
		}
		same(t, f.Restart(), api.OK, "Restart")
		for i := range 8 {
			got, what, _ := f.Read(0, i)
			isNew := i == at && slices.Equal(got, b)
			if what == api.RecordGood && !isNew && (before[i] == nil || !slices.Equal(got, before[i])) {
				t.Fatalf("the record %d holds %v; before it was %v, and %v was programmed", i, got, before[i], b)
			}
			if before[i] != nil || i == at {
				seen[what]++
			}
			if at >= 0 && i != at {
				sameList(t, got, before[i], "another record than that which is programmed")
			}
		}
	}
	if slices.Min(seen[:]) < 500 {
		t.Errorf("records that were blank, good and torn: %v", seen)
	}
}
