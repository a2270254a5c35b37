package update_test

import (
	"math/rand"
	"reflect"
	"slices"
	"testing"

	"coulomb/api"
	"coulomb/update"
)

// The chapter's examples.
func TestExamples(t *testing.T) {
	numbers := []byte{1, 2, 3, 4, 5, 6, 7, 8}
	f := newFlash(t, 1)
	program(t, f, 0, 0, numbers)
	b, what, e := f.Read(0, 0)
	sameList(t, b, numbers, "Read")
	same(t, what, api.RecordGood, "Read", e)
	sameList(t, rawOf(t, f, 0)[:16], []byte{1, 254, 2, 253, 3, 252, 4, 251, 5, 250, 6, 249, 7, 248, 8, 247}, "raw bytes")
	for _, x := range []struct {
		mask, raw []byte
		held      []byte
		what      int
	}{
		{[]byte{255, 255}, []byte{255, 255, 2, 253, 3, 252, 4, 251, 5, 250, 6, 249, 7, 248, 8, 247}, nil, api.RecordTorn},
		{filled(16, 255), filled(16, 255), nil, api.RecordBlank},
		{nil, recordRaw(numbers), numbers, api.RecordGood},
	} {
		f := newFlash(t, 1)
		same(t, errs(f.Cut(0, x.mask), f.Program(0, 0, numbers), f.Restart()), errs(api.OK, api.ErrDown, api.OK), "Cut, Program, Restart")
		b, what, e := f.Read(0, 0)
		sameList(t, b, x.held, "Read")
		same(t, what, x.what, "Read", e)
		sameList(t, rawOf(t, f, 0)[:16], x.raw, "raw bytes")
	}
	for _, x := range []struct {
		values []uint32
		want   string
	}{
		{[]uint32{7, 9}, "1:7 2:9"},
		{[]uint32{1, 2, 3, 4, 5, 6, 7, 8, 9, 10, 11, 12, 13, 14, 15, 16, 17}, "9:9 10:10 11:11 12:12 13:13 14:14 15:15 16:16 17:17"},
	} {
		f := newFlash(t, 2)
		for _, v := range x.values {
			same(t, update.Append(f, 0, 2, v), api.OK, "Append")
		}
		l, e := update.Lines(f, 0, 2)
		sameList(t, l, linesOf(x.want), "Lines", e)
	}
	w := newTwin(t, guard(), key)
	same(t, [4]int{w.Phase(0), w.Version(0), w.Charge(), w.Phase(2)}, [4]int{2, 1, 0, 0}, "Phase, Version, Charge, Phase")
	im := imageOf(1, key, textOf(guard()))
	same(t, errs(w.Offer(0, im), w.Switch(0), w.Offer(2, im)), errs(api.ErrOld, api.ErrNone, api.ErrRange), "Offer, Switch, Offer")
}

// R4, P10.1 to P10.8: flashes that NewFlash has not made; ErrNil is before all others.
func TestFlashesThatAreNotValid(t *testing.T) {
	for _, f := range []*update.Flash{nil, {}, new(update.Flash)} {
		for _, i := range append(wildInts(), 0, 1, 2, 7) {
			same(t, f.Pages(), 0, "Pages")
			same(t, f.Down(), false, "Down")
			same(t, f.Copy(), nil, "Copy")
			b, e := f.Raw(i)
			sameList(t, b, nil, "Raw")
			same(t, e, api.ErrNil, "Raw", i)
			b, what, e := f.Read(i, i)
			sameList(t, b, nil, "Read")
			same(t, what, 0, "Read")
			same(t, errs(e, f.Erase(i), f.Program(i, i, nil), f.Program(0, 0, eight(1)), f.Cut(i, make([]byte, 129)), f.Cut(0, nil), f.Restart()), slices.Repeat(errs(api.ErrNil), 7), "Read, Erase, Program, Cut, Restart", i)
			for _, first := range []int{0, i} {
				checkErrorsOfALog(t, f, first, i, api.ErrNil)
				checkErrorsOfALog(t, f, i, 2, api.ErrNil)
				checkErrorsOfASlot(t, f, first, api.Image{}, nil, 0, api.ErrNil, api.ErrNil)
				checkErrorsOfASlot(t, f, first, api.Image{Version: 1, Size: 1}, []byte{1}, key, api.ErrNil, api.ErrNil)
			}
		}
	}
}

// R4, P10.9 to P10.14: twins that NewTwin has not made; ErrNil is before all others.
func TestTwinsThatAreNotValid(t *testing.T) {
	for _, w := range []*update.Twin{nil, {}, new(update.Twin)} {
		for _, i := range append(wildInts(), 0, 1, 2) {
			for _, b := range []api.Beat{beat(), {}, beat(mask(make([]byte, 129)...)), beat(func(b *api.Beat) { b.Signals.Link = quantities + 1 })} {
				same(t, answerOf(w.Tick(b)), bad[api.Act](api.ErrNil), "Tick")
			}
			same(t, errs(w.Offer(i, api.Image{}), w.Offer(i, imageOf(2, key, "x")), w.Block(i, 0, eight(1)), w.Block(i, -1, nil), w.Switch(i)), slices.Repeat(errs(api.ErrNil), 5), "Offer, Block, Switch", i)
			same(t, [3]int{w.Phase(i), w.Version(i), w.Charge()}, [3]int{0, 0, -1}, "Phase, Version, Charge")
			same(t, w.Machine(i), nil, "Machine")
			same(t, w.Flash(i), nil, "Flash")
			same(t, w.Copy(), nil, "Copy")
		}
	}
}

// roomy is a list behind whose end there is room.
func roomy(l []byte) []byte { return append(make([]byte, 0, len(l)+20), l...) }

// spoil changes all bytes of a list, and what lies behind its end.
func spoil(l []byte) {
	for i := range l[:cap(l)] {
		l[:cap(l)][i] += 77
	}
}

// R5: lists are neither changed nor kept.
func TestArguments(t *testing.T) {
	text := textOf(guard(hot(320000)))
	x := newFlashes(t, 10)
	b, m, im := roomy(eight(1)), roomy([]byte{1, 2, 3}), roomy([]byte(text))
	used := func(l []byte, want string) {
		t.Helper()
		same(t, string(l), want, "an argument")
		same(t, slices.Max(append(l[len(l):cap(l)], 0)), 0, "what is behind an argument")
		spoil(l)
	}
	x.program(9, 0, b)
	used(b, string(eight(1)))
	x.check()
	x.cut(1, m)
	used(m, "\x01\x02\x03")
	x.program(9, 1, eight(2))
	x.program(9, 2, eight(3))
	x.restart()
	x.write(0, imageOf(3, key, text), im)
	used(im, text)
	x.check()
	x.checkSlot(0, key)
	update.Seal(key, roomy(nil))

	y := closes(t)
	y.begin(0, imageOf(5, key, text))
	l := blocksOf(text)
	for k := range l {
		block := roomy(l[k])
		same(t, y.block(0, k, block), api.OK, "Block")
		used(block, string(l[k]))
		if k%3 == 2 {
			y.run(3)
		}
	}
	y.run(4)
	same(t, y.switches(0), api.OK, "Switch")
	m = roomy([]byte{1, 2, 3})
	y.run(4)
	y.run(1, fail(0), mask(m...))
	used(m, "\x01\x02\x03")
	y.check()
	y.run(6, back(0))
}

// R5: results share no memory with objects, or other results.
func TestResultsShareNothing(t *testing.T) {
	text := textOf(guard())
	x := newFlashes(t, 10)
	x.write(1, imageOf(3, key, text), []byte(text))
	x.erase(2)
	x.append(8, 2, 5, true)
	x.append(8, 2, 6, true)
	for range 2 {
		raw, _ := x.f.Raw(1)
		b, _, _ := x.f.Read(1, 0)
		spoil(raw)
		spoil(b)
		l, _ := update.Lines(x.f, 8, 2)
		sameList(t, l, linesOf("1:5 2:6"), "Lines")
		clear(l[:cap(l)])
		s, _ := update.Look(x.f, 1)
		sameList(t, s.Missing, []int{0, 1, 2, 3, 4, 5, 6, 7}, "Missing")
		clear(s.Missing[:cap(s.Missing)])
		x.check()
		x.checkReads()
		x.checkSlot(1, key)
	}
}

// R3: nil and empty lists are the same.
func TestNilAndEmpty(t *testing.T) {
	for _, l := range [][]byte{nil, {}} {
		x := newFlashes(t, 8)
		x.cut(0, l)
		x.program(0, 0, eight(1))
		x.restart()
		same(t, x.f.Program(0, 1, l), api.ErrArg, "Program")
		same(t, update.Write(x.f, 0, api.Image{Version: 1, Size: 1}, l), api.ErrArg, "Write")
		same(t, answerOf(update.Seal(key, l)), good(sealOf(key, "")), "Seal")
		y := closes(t)
		y.begin(0, imageOf(2, key, "x"))
		same(t, y.block(0, 0, l), api.ErrArg, "Block")
		y.block(0, 0, eight(1))
		b := beat(fail(0))
		b.Mask = l
		y.tick(b)
		y.run(1, back(0))
	}
}

// wild are arguments of all kinds, possible ones and others.
type wild struct {
	ints  [4]int
	key   uint64
	b     []byte
	im    api.Image
	g     api.Guard
	beat  api.Beat
	value uint32
}

// drawAny draws a value, mostly the good one.
func drawAny[T any](r *rand.Rand, good T, wild ...T) T {
	if r.Intn(4) > 0 {
		return good
	}
	return pick(r, wild...)
}

// drawWild draws arguments.
func drawWild(r *rand.Rand) wild {
	text := textOf(guard(hot(drawHot(r))))
	w := wild{key: drawAny[uint64](r, key, 0, prime, 1<<63), b: drawAny(r, drawBytes(r, 8), nil, drawBytes(r, r.Intn(130)), drawBytes(r, 2000), []byte(text)), value: r.Uint32()}
	for i := range w.ints {
		w.ints[i] = drawAny(r, r.Intn(3), append(wildInts(), 4, 7, 8, 1000)...)
	}
	w.im = drawAny(r, imageOf(1+r.Intn(5), key, text), append(wildImages(), api.Image{Version: 2, Size: 8, Seal: 5})...)
	w.g = drawAny(r, guard(), wildGuards()...)
	w.beat = beat(temp(pick[int64](r, 300000, 325000)))
	w.beat.Signals.Link = drawAny[int64](r, 400000000, quantities+1, -1<<63)
	for i := range 2 {
		w.beat.Fail[i], w.beat.Back[i] = r.Intn(20) == 0, r.Intn(3) == 0
	}
	w.beat.Mask = drawAny(r, drawMask(r), make([]byte, 129), nil)
	return w
}

// outcome is what one call has returned: its error, and its other results.
type outcome struct {
	name  string
	errno api.Errno
	rest  []any
}

// returned is the outcome of a call.
func returned(name string, e api.Errno, rest ...any) outcome { return outcome{name, e, rest} }

// readAll calls all functions that change nothing.
func readAll(w wild, f *update.Flash, x *update.Twin) []outcome {
	raw, e := f.Raw(w.ints[0])
	held, what, e2 := f.Read(w.ints[0], w.ints[1])
	lines, e3 := update.Lines(f, w.ints[0], w.ints[1])
	seal, e4 := update.Seal(w.key, w.b)
	s, e5 := update.Look(f, w.ints[0])
	g, can, e6 := update.Guard(f, w.ints[0], w.key)
	made, e7 := update.NewFlash(w.ints[0])
	twin, e8 := update.NewTwin(w.g, w.key)
	l := []outcome{
		returned("Raw", e, raw), returned("Read", e2, held, what), returned("Lines", e3, lines), returned("Seal", e4, seal), returned("Look", e5, s), returned("Guard", e6, g, can), returned("NewFlash", e7, made != nil), returned("NewTwin", e8, twin != nil),
		returned("flash", api.OK, f.Pages(), f.Down()), returned("twin", api.OK, x.Phase(w.ints[0]), x.Version(w.ints[0]), x.Charge(), x.Machine(w.ints[0]) != nil, x.Flash(w.ints[0]) != nil),
	}
	for i := range 2 {
		if m := x.Machine(i); m != nil {
			l = append(l, returned("machine", api.OK, stateOf(m)))
		}
		for p := range 18 {
			raw, e := x.Flash(i).Raw(p)
			l = append(l, returned("pages of a controller", e, raw))
		}
	}
	return l
}

// changes are calls that may change a flash, or a twin.
func changes(w wild, f *update.Flash, x *update.Twin) []func() outcome {
	return []func() outcome{
		func() outcome { return returned("Erase", f.Erase(w.ints[0])) },
		func() outcome { return returned("Program", f.Program(w.ints[0], w.ints[1], w.b)) },
		func() outcome { return returned("Cut", f.Cut(w.ints[0], w.b)) },
		func() outcome { return returned("Restart", f.Restart()) },
		func() outcome {
			done, e := update.AppendStep(f, w.ints[0], w.ints[1], w.value)
			return returned("AppendStep", e, done)
		},
		func() outcome { return returned("Append", update.Append(f, w.ints[0], w.ints[1], w.value)) },
		func() outcome { return returned("Write", update.Write(f, w.ints[0], w.im, w.b)) },
		func() outcome {
			act, e := x.Tick(w.beat)
			return returned("Tick", e, act)
		},
		func() outcome { return returned("Offer", x.Offer(w.ints[0], w.im)) },
		func() outcome { return returned("Block", x.Block(w.ints[0], w.ints[1], w.b)) },
		func() outcome { return returned("Switch", x.Switch(w.ints[0])) },
	}
}

// isNothing reports whether a result is zero. (R3)
func isNothing(x any) bool {
	if s, ok := x.(api.Slot); ok && len(s.Missing) == 0 {
		s.Missing = nil
		x = s
	}
	v := reflect.ValueOf(x)
	return v.IsZero() || v.Kind() == reflect.Slice && v.Len() == 0
}

// P1, R2, R6, R7, R10: no arguments make a function panic; with an error all other results are zero, and nothing has changed, unless an operation was cut; a call again returns the same.
func TestAnyArguments(t *testing.T) {
	r := chance(50)
	f, x := newFlash(t, 9), newTwin(t, guard(), key)
	seen := map[string]map[bool]int{}
	for range 6000 {
		w := drawWild(r)
		before := readAll(w, f, x)
		cf, cx := f.Copy(), x.Copy()
		at := r.Intn(11)
		first := changes(w, f, x)[at]()
		again := changes(w, cf, cx)[at]()
		behind := readAll(w, f, x)
		if !reflect.DeepEqual(first, again) || !reflect.DeepEqual(behind, readAll(w, cf, cx)) {
			t.Fatalf("%s does not do the same again: %v, %v", first.name, first, again)
		}
		if first.errno != api.OK && first.errno != api.ErrDown && !reflect.DeepEqual(before, behind) {
			t.Fatalf("%s returns %d, and something has changed", first.name, first.errno)
		}
		for _, y := range append(behind, first) {
			if y.errno != api.OK && slices.ContainsFunc(y.rest, func(rest any) bool { return !isNothing(rest) }) {
				t.Fatalf("%s returns %v with the error %d", y.name, y.rest, y.errno)
			}
		}
		if seen[first.name] == nil {
			seen[first.name] = map[bool]int{}
		}
		seen[first.name][first.errno == api.OK]++
	}
	for name, n := range seen {
		if n[false] < 5 || n[true] < 5 && name != "Block" && name != "Switch" {
			t.Errorf("%s has returned errors %d times, and none %d times", name, n[false], n[true])
		}
	}
}
