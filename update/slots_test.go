package update_test

import (
	"math"
	"slices"
	"strings"
	"testing"

	"coulomb/api"
	"coulomb/passport"
	"coulomb/protect"
	"coulomb/update"
)

// sealing is the key of slots, if a test does not say another one.
const sealing = 12345

// P10.6
func TestSeal(t *testing.T) {
	same(t, answerOf(update.Seal(sealing, nil)), answerOf(passport.Digest(api.FieldLarge, sealing, nil)), "Seal of no bytes")
	same(t, answerOf(update.Seal(3, []byte{5})), good[uint64](3*3+(5<<16+1<<8)*3), "Seal of a byte")
	r := chance(6)
	for _, key := range []uint64{0, 1, 2, sealing, prime - 1, prime, prime + 1, 1 << 32, math.MaxUint64} {
		for _, n := range []int{0, 1, 2, 3, 8, 120, 384, 999, 1000, 1001, 5000} {
			b := drawBytes(r, n)
			got, want := answerOf(update.Seal(key, b)), answerOf(passport.Digest(api.FieldLarge, key, b))
			same(t, got, want, "Seal", key, n)
			switch {
			case n > 1000:
				same(t, got, bad[uint64](api.ErrLong), "Seal", key, n)
			case key == 0 || key >= prime:
				same(t, got, bad[uint64](api.ErrRange), "Seal", key, n)
			default:
				same(t, got.e, api.OK, "Seal", key, n)
			}
		}
	}
}

// wildImages are images that cannot be written.
func wildImages() []api.Image {
	l := []api.Image{{}}
	for _, x := range []int{0, -1, mostVersion + 1, mostVersion + 2, 1 << 32, 1<<32 + 1, math.MinInt, math.MaxInt} {
		l = append(l, api.Image{Version: x, Size: 8, Seal: 5})
	}
	for _, x := range []int{0, -1, -8, mostSize + 1, 1 << 16, 1<<16 + 8, 1<<32 + 8, math.MinInt, math.MaxInt} {
		l = append(l, api.Image{Version: 5, Size: x, Seal: 5})
	}
	for _, x := range []uint64{mostSeal + 1, mostSeal + 2, 1 << 40, math.MaxUint64} {
		l = append(l, api.Image{Version: 5, Size: 8, Seal: x})
	}
	return l
}

// P10.7, P10.8, R1: the errors of a slot, and then those of Write and Guard, in their order.
func TestErrorsOfSlots(t *testing.T) {
	im := api.Image{Version: 1, Size: 3, Seal: 5}
	for _, down := range []bool{false, true} {
		for _, n := range []int{1, 6, 7, 8, 64} {
			x := newFlashes(t, n)
			if down {
				x.cut(0, nil)
				x.erase(0)
			}
			for _, first := range append(wildInts(), n-6, n-5, n-1, n) {
				checkErrorsOfASlot(t, x.f, first, im, []byte{1, 2, 3}, sealing, api.ErrRange, api.ErrRange)
				checkErrorsOfASlot(t, x.f, first, api.Image{}, nil, 0, api.ErrRange, api.ErrRange)
			}
			for first := 0; first <= n-7 && down; first++ {
				checkErrorsOfASlot(t, x.f, first, im, []byte{1, 2, 3}, sealing, api.ErrDown, api.ErrDown)
				checkErrorsOfASlot(t, x.f, first, api.Image{}, nil, 0, api.ErrDown, api.ErrDown)
			}
			x.check()
		}
	}
}

// checkErrorsOfASlot checks that the functions of a slot return errors: Write and Look one, and Guard another one.
func checkErrorsOfASlot(t *testing.T, f *update.Flash, first int, im api.Image, b []byte, key uint64, want, ofGuard api.Errno) {
	t.Helper()
	same(t, update.Write(f, first, im, b), want, "Write", first, im)
	s, e := update.Look(f, first)
	sameSlot(t, s, api.Slot{}, "Look", first)
	same(t, e, want, "Look", first)
	g, can, e := update.Guard(f, first, key)
	same(t, g, api.Guard{}, "Guard", first)
	same(t, can, false, "Guard", first)
	same(t, e, ofGuard, "Guard", first)
}

// P10.7: an image that cannot be written.
func TestWriteOfWrongImages(t *testing.T) {
	x := newFlashes(t, 7)
	x.write(0, api.Image{Version: 7, Size: 5, Seal: 9}, []byte("hello"))
	for _, im := range wildImages() {
		for _, n := range []int{0, 8, max(0, min(im.Size, 1000))} {
			same(t, update.Write(x.f, 0, im, make([]byte, n)), api.ErrRange, "Write", im, n)
		}
	}
	for _, size := range []int{1, 7, 8, 9, 383, mostSize} {
		for _, n := range []int{0, size - 1, size + 1, size + 8, 1000} {
			same(t, update.Write(x.f, 0, api.Image{Version: 5, Size: size, Seal: 5}, make([]byte, n)), api.ErrArg, "Write", size, n)
		}
	}
	x.check()
}

// P10.7, P10.8: images of all sizes, and at the bounds, on any pages; what was there before is gone.
func TestWriteAndLook(t *testing.T) {
	r := chance(7)
	x := newFlashes(t, 10)
	for size := 1; size <= mostSize; size++ {
		first := r.Intn(4)
		im := api.Image{Version: pick(r, 1, 2, 1000000000, mostVersion), Size: size, Seal: pick[uint64](r, 0, 1, 305419896, mostSeal)}
		x.write(first, im, drawBytes(r, size))
		s, e := update.Look(x.f, first)
		sameSlot(t, s, api.Slot{Set: true, Image: im, Ready: true, Good: true}, "Look", first)
		same(t, e, api.OK, "Look", first)
		x.checkSlot(r.Intn(4), sealing)
		if size%5 == 0 {
			for i := range 8 { // marks, and blocks behind the last one
				if x.m.what(first, i) == api.RecordBlank {
					x.program(first, i, eight(0))
				}
			}
			x.checkSlot(first, sealing)
		}
	}
}

// P10.7: how an image is held.
func TestHowAnImageIsHeld(t *testing.T) {
	f := newFlash(t, 8)
	same(t, update.Write(f, 1, api.Image{Version: 0x01020304, Size: 0x0113, Seal: 0xa1a2a3a4}, filled(0x0113, 9)), api.OK, "Write")
	read := func(page, record int) []byte {
		b, _, e := f.Read(page, record)
		same(t, e, api.OK, "Read", page, record)
		return b
	}
	sameList(t, read(1, 0), []byte{1, 2, 3, 4, 1, 0x13, 0, 0}, "the record 0")
	sameList(t, read(1, 1), []byte{0xa1, 0xa2, 0xa3, 0xa4, 0, 0, 0, 0}, "the record 1")
	for i, held := range [][]byte{make([]byte, 8), nil, nil, nil, make([]byte, 8), nil} {
		sameList(t, read(1, 2+i), held, "the record", 2+i)
	}
	for k := range 34 {
		sameList(t, read(2+k/8, k%8), filled(8, 9), "the block", k)
	}
	sameList(t, read(6, 2), []byte{9, 9, 9, 0, 0, 0, 0, 0}, "the last block")
	sameList(t, read(6, 3), nil, "the record behind the last block")
}

// P10.7: Write is cut, with each of its operations.
func TestWriteThatIsCut(t *testing.T) {
	r := chance(8)
	for range 6 {
		text := textOf(guard())
		im := imageOf(5, sealing, text)
		if r.Intn(2) == 0 {
			text = text[:8*(1+r.Intn(5))]
			im.Size = len(text)
		}
		all := 7 + 2 + (im.Size+7)/8 + 2
		for after := range all + 2 {
			x := newFlashes(t, 8)
			old := textOf(guard(hot(5)))
			x.write(1, imageOf(4, sealing, old), []byte(old))
			x.cut(after, drawMask(r))
			x.write(1, im, []byte(text))
			same(t, x.f.Down(), after < all, "Down", after)
			x.checkSlot(1, sealing)
			x.restart()
			x.checkSlot(1, sealing)
			x.write(1, im, []byte(text))
		}
	}
}

// P10.8: an image is there only if its version and size are possible, and both records are good.
func TestSet(t *testing.T) {
	type head struct{ version, size, seal uint64 }
	for _, x := range []struct {
		h   head
		set bool
	}{
		{head{1, 8, 5}, true}, {head{mostVersion, mostSize, mostSeal}, true}, {head{1, 1, 0}, true},
		{head{0, 8, 5}, false}, {head{mostVersion + 1, 8, 5}, false}, {head{1<<32 - 1, 8, 5}, false},
		{head{1, 0, 5}, false}, {head{1, mostSize + 1, 5}, false}, {head{1, 65535, 5}, false}, {head{0, 0, 0}, false},
	} {
		for without := -1; without < 4; without++ { // a record that is blank, or torn
			f := newFlashes(t, 7)
			for i, b := range [][]byte{number([2]uint64{x.h.version, 4}, [2]uint64{x.h.size, 2}, [2]uint64{0, 2}), number([2]uint64{x.h.seal, 4}, [2]uint64{0, 4})} {
				if without == 2+i {
					tear(t, f.f, 0, i)
				} else if without != i {
					program(t, f.f, 0, i, b)
				}
			}
			program(t, f.f, 1, 1, eight(1))
			f.m.raw = allRaw(t, f.f)
			want := api.Slot{Torn: without >= 2}
			if x.set && without < 0 {
				want.Set, want.Image = true, api.Image{Version: int(x.h.version), Size: int(x.h.size), Seal: x.h.seal}
				for k := range (want.Image.Size + 7) / 8 {
					if k != 1 {
						want.Missing = append(want.Missing, k)
					}
				}
			}
			s, e := update.Look(f.f, 0)
			sameSlot(t, s, want, "Look", x, without)
			same(t, e, api.OK, "Look")
			f.checkSlot(0, sealing)
		}
	}
}

// P10.8: what marks there are is told by records that are not blank, also if there is no image; each torn record is found.
func TestMarks(t *testing.T) {
	for marks := range 64 {
		for torn := range 3 { // no mark, the first one, all of them
			f := newFlash(t, 8)
			want := api.Slot{Ready: marks&1 > 0, Good: marks&16 > 0, Bad: marks&32 > 0}
			for i := range 6 {
				if marks>>i&1 == 0 {
					continue
				}
				if i >= 1 && i <= 3 {
					want.Trials++
				}
				if torn == 2 || torn == 1 && !want.Torn {
					tear(t, f, 1, 2+i)
					want.Torn = true
				} else {
					program(t, f, 1, 2+i, eight(5))
				}
			}
			s, e := update.Look(f, 1)
			sameSlot(t, s, want, "Look", marks, torn)
			same(t, e, api.OK, "Look")
		}
	}
	for i := range 72 {
		f := newFlash(t, 9)
		tear(t, f, i/8, i%8)
		s, e := update.Look(f, 1)
		same(t, s.Torn, i >= 8 && i < 64, "Torn, of the record", i, e)
	}
}

// P10.8: each block that is blank, or torn, is missing.
func TestMissing(t *testing.T) {
	r := chance(9)
	for range 100 {
		x := newFlashes(t, 8)
		size := 1 + r.Intn(mostSize)
		program(t, x.f, 1, 0, versionBytes(api.Image{Version: 1, Size: size}))
		program(t, x.f, 1, 1, make([]byte, 8))
		for k := range mostBlocks {
			switch r.Intn(4) {
			case 0, 1:
				program(t, x.f, 2+k/8, k%8, eight(byte(k)))
			case 2:
				tear(t, x.f, 2+k/8, k%8)
			}
		}
		x.m.raw = allRaw(t, x.f)
		x.checkSlot(1, sealing)
	}
}

// slotWith makes a flash whose slot at the page 1 holds an image, and has some marks: records of the first page.
func slotWith(t *testing.T, im api.Image, b string, marks ...int) *update.Flash {
	t.Helper()
	f := newFlash(t, 8)
	program(t, f, 1, 0, versionBytes(im))
	program(t, f, 1, 1, sealBytes(im))
	for k, block := range blocksOf(b) {
		program(t, f, 2+k/8, k%8, block)
	}
	for _, m := range marks {
		program(t, f, 1, m, make([]byte, 8))
	}
	return f
}

// checkGuard checks the guard of the slot at the page 1.
func checkGuard(t *testing.T, f *update.Flash, key uint64, want api.Guard, can bool, about ...any) {
	t.Helper()
	g, ok, e := update.Guard(f, 1, key)
	same(t, e, api.OK, "Guard", about)
	same(t, ok, can, "Guard", about)
	if !can {
		want = api.Guard{}
	}
	same(t, g, want, "Guard", about)
}

// P10.8: which slots can be run, by their marks.
func TestGuardByMarks(t *testing.T) {
	g := guard()
	text := textOf(g)
	im := imageOf(1, sealing, text)
	for marks := range 64 {
		var l []int
		for i := range 6 {
			if marks>>i&1 > 0 {
				l = append(l, 2+i)
			}
		}
		f := slotWith(t, im, text, l...)
		ready, isGood, isBad := slices.Contains(l, 2), slices.Contains(l, 6), slices.Contains(l, 7)
		trials := marks&2>>1 + marks&4>>2 + marks&8>>3
		checkGuard(t, f, sealing, g, ready && !isBad && (isGood || trials < 3), l)
	}
	for _, x := range []struct {
		mark int
		can  bool
	}{{2, true}, {3, false}, {6, false}, {7, false}} { // a torn mark is one
		f := slotWith(t, im, text)
		tear(t, f, 1, x.mark)
		checkGuard(t, f, sealing, g, x.can, "torn", x.mark)
		if x.mark != 2 {
			program(t, f, 1, 2, make([]byte, 8))
			checkGuard(t, f, sealing, g, x.mark != 7, "ready; torn", x.mark)
		}
	}
}

// P10.8: a slot that does not fit is not run.
func TestGuardOfWrongSlots(t *testing.T) {
	g := guard()
	text := textOf(g)
	right := imageOf(3, sealing, text)
	can := func(im api.Image, b string, key uint64, want bool, about string) {
		t.Helper()
		checkGuard(t, slotWith(t, im, b, 2), key, g, want, about)
		checkGuard(t, slotWith(t, im, b, 2, 6), key, g, want, about, "good")
	}
	can(right, text, sealing, true, "right")
	can(right, text, sealing+1, false, "with another key")
	can(right, text, prime-1, false, "with another key")
	can(with(right, func(im *api.Image) { im.Seal++ }), text, sealing, false, "with another seal")
	can(with(right, func(im *api.Image) { im.Seal += prime }), text, sealing, false, "with a seal that is greater by the prime")
	can(with(right, func(im *api.Image) { im.Version = 0 }), text, sealing, false, "without a version")
	can(imageOf(mostVersion, 1, text), text, 1, true, "with the key 1")
	can(imageOf(1, prime-1, text), text, prime-1, true, "with the greatest key")
	can(right, text[:len(text)-8], sealing, false, "without the last block")
	can(right, text[8:], sealing, false, "with other blocks")
	for _, b := range []string{text + " ", text[:len(text)-4], text[:len(text)-5], " " + text, strings.ToUpper(text), "x", text + "\x00", strings.Replace(text, "guard 42", "guard 042", 1), strings.Replace(text, " 3 ", " 0 ", 1), strings.Replace(text, " 58982 ", " 65537 ", 1)} {
		_, e := protect.Parse(b)
		can(imageOf(3, sealing, b), b, sealing, e == api.OK, b)
	}
	can(right, text+strings.Repeat("\x00", 20), sealing, true, "with something behind the last block")
	can(right, text+"9999999"[:7-(len(text)+7)%8], sealing, true, "with something behind the bytes in the last block")
}

// P10.8: a block that is torn is missing, although each of its bytes is still there once.
func TestGuardWithATornBlock(t *testing.T) {
	text := textOf(guard())
	for k := range blocksOf(text) {
		x := newFlashes(t, 8)
		x.write(1, imageOf(3, sealing, text), []byte(text))
		checkGuard(t, x.f, sealing, guard(), true)
		m := make([]byte, pageBytes)
		for i := range pageBytes {
			m[i] = 255 * byte(min(1, (i/16)^(k%8))) // all other blocks of the page are gone
		}
		m[16*(k%8)+1] = 255
		x.cut(0, m)
		x.erase(2 + k/8)
		x.restart()
		for i, block := range blocksOf(text) {
			if i != k && x.m.what(2+i/8, i%8) == api.RecordBlank {
				x.program(2+i/8, i%8, block)
			}
		}
		s, e := update.Look(x.f, 1)
		sameList(t, s.Missing, []int{k}, "Missing", e)
		checkGuard(t, x.f, sealing, guard(), false, "torn", k)
	}
}

// P10.8: guards of all sizes.
func TestGuards(t *testing.T) {
	long := guard()
	for _, x := range []*int64{&long.MostVolt, &long.LeastVolt, &long.Out, &long.In, &long.Hot, &long.LeastIso, &long.Leak, &long.Spread[0], &long.Spread[1], &long.Spread[2], &long.Spread[3], &long.Spread[4]} {
		*x = quantities
		checkWritten(t, long)
	}
	var short api.Guard
	short.Debounce, short.PrePart, short.PreTicks, short.OpenTicks = [7]int{1, 1, 1, 1, 1, 1, 1}, 1, 1, 1
	for _, temp := range []int64{0, 10, 100, 1000, 10000, 100000, 1000000, 10000000, 100000000} {
		short.Hot = temp
		checkWritten(t, short)
	}
}

// checkWritten checks that a guard is written, and can be run.
func checkWritten(t *testing.T, g api.Guard) {
	t.Helper()
	x := newFlashes(t, 8)
	text := textOf(g)
	x.write(1, imageOf(9, sealing, text), []byte(text))
	checkGuard(t, x.f, sealing, g, true, text)
	x.checkSlot(1, sealing)
	x.checkSlot(0, sealing)
}

// P10.8: a key that is none.
func TestGuardWithoutAKey(t *testing.T) {
	text := textOf(guard())
	for _, f := range []*update.Flash{slotWith(t, imageOf(1, sealing, text), text, 2, 6), newFlash(t, 8)} {
		for _, key := range []uint64{0, prime, prime + 1, prime + sealing, 1 << 31, 1 << 32, 1<<32 + sealing, math.MaxUint64} {
			g, can, e := update.Guard(f, 1, key)
			same(t, g, api.Guard{}, "Guard", key)
			same(t, can, false, "Guard", key)
			same(t, e, api.ErrArg, "Guard", key)
		}
	}
}

// P10.6 to P10.8: drawn slots, with records that are torn.
func TestDrawnSlots(t *testing.T) {
	r := chance(10)
	runs := 0
	for range 400 {
		x := newFlashes(t, 9)
		text := textOf(guard(hot(int64(300000 + r.Intn(1000)))))
		first := r.Intn(3)
		x.write(first, imageOf(1+r.Intn(5), sealing, text), []byte(text))
		for range r.Intn(4) {
			switch r.Intn(3) {
			case 0:
				x.cut(0, drawMask(r))
				x.erase(first + r.Intn(7))
				x.restart()
			case 1:
				x.cut(0, drawMask(r))
				x.program(first, r.Intn(8), make([]byte, 8))
			case 2:
				x.program(first, 3+r.Intn(5), make([]byte, 8))
			}
			x.checkSlot(first, sealing)
			x.restart()
			x.cut(1000, nil)
			x.checkSlot(first, sealing)
		}
		if x.m.canRun(first, sealing) {
			runs++
		}
	}
	if runs < 50 || runs > 350 {
		t.Errorf("%d slots of 400 can be run", runs)
	}
}
