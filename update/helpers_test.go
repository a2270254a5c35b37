package update_test

import (
	"bytes"
	"math"
	"math/rand"
	"reflect"
	"slices"
	"strings"
	"testing"

	"coulomb/api"
	"coulomb/passport"
	"coulomb/protect"
	"coulomb/update"
)

// The limits that the chapter names.
const (
	mostPages    = 64
	mostLogPages = 16
	slotPages    = 7
	mostBlocks   = 48
	mostSize     = 8 * mostBlocks
	mostVersion  = 1<<31 - 1
	mostSeal     = 1<<32 - 1
	mostAfter    = 1000
	mostQueue    = 8
	bootTicks    = 5
	shadowTicks  = 20
	pageBytes    = 128
	prime        = 2147483647
	quantities   = 1 << 40
	key          = 7 // of a twin, if a test does not say another one
)

// Where the slots of a controller begin.
const (
	slot0 = 4
	slot1 = 11
)

// change changes a value that is made.
type change[T any] func(x *T)

// with returns a value that is changed.
func with[T any](x T, changes ...change[T]) T {
	for _, c := range changes {
		c(&x)
	}
	return x
}

// guard is the guard of the examples of layer 5, changed.
func guard(changes ...change[api.Guard]) api.Guard {
	return with(api.Guard{
		MostVolt: 4200000, LeastVolt: 2800000, Out: 100000, In: 50000, Hot: 330000, LeastIso: 100000, Spread: [5]int64{20000, 20000, 1000, 2000, 10000},
		Debounce: [7]int{3, 3, 3, 3, 3, 3, 3}, PrePart: 58982, PreTicks: 5, OpenTicks: 4, Leak: 2000,
	}, changes...)
}

// hot changes which temperature is too hot.
func hot(temp int64) change[api.Guard] { return func(g *api.Guard) { g.Hot = temp } }

// debounce changes how many ticks it may be too hot.
func debounce(ticks int) change[api.Guard] {
	return func(g *api.Guard) { g.Debounce[api.CauseHot-1] = ticks }
}

// textOf is the text of a guard.
func textOf(g api.Guard) string {
	text, e := protect.Text(g)
	if e != api.OK {
		panic("the guard is not valid")
	}
	return text
}

// sealOf is the seal of bytes.
func sealOf(key uint64, b string) uint64 {
	seal, e := passport.Digest(api.FieldLarge, key, []byte(b))
	if e != api.OK {
		panic("there is no seal")
	}
	return seal
}

// imageOf is the image with some bytes.
func imageOf(version int, key uint64, b string) api.Image {
	return api.Image{Version: version, Size: len(b), Seal: sealOf(key, b)}
}

// blocksOf are the blocks of bytes.
func blocksOf(b string) [][]byte {
	var l [][]byte
	for i := 0; i < len(b); i += 8 {
		block := make([]byte, 8)
		copy(block, b[i:])
		l = append(l, block)
	}
	return l
}

// number is the bytes of some numbers, each as many as is said, with the most significant one first.
func number(l ...[2]uint64) []byte {
	var b []byte
	for _, x := range l {
		for i := int(x[1]) - 1; i >= 0; i-- {
			b = append(b, byte(x[0]>>(8*i)))
		}
	}
	return b
}

// newFlash makes a flash.
func newFlash(t *testing.T, pages int) *update.Flash {
	t.Helper()
	f, e := update.NewFlash(pages)
	if f == nil || e != api.OK {
		t.Fatalf("NewFlash: %v, %d", f, e)
	}
	return f
}

// newTwin makes a twin.
func newTwin(t *testing.T, g api.Guard, key uint64) *update.Twin {
	t.Helper()
	w, e := update.NewTwin(g, key)
	if w == nil || e != api.OK {
		t.Fatalf("NewTwin: %v, %d", w, e)
	}
	return w
}

// same checks that something is what it has to be.
func same[T any](t *testing.T, got, want T, about ...any) {
	t.Helper()
	if !reflect.DeepEqual(got, want) {
		t.Fatalf("%v: %v, not %v", about, got, want)
	}
}

// sameList checks that a list has the elements that it has to have. (R3)
func sameList[T comparable](t *testing.T, got, want []T, about ...any) {
	t.Helper()
	if !slices.Equal(got, want) {
		t.Fatalf("%v: %v, not %v", about, got, want)
	}
}

// answer is a result, and an error.
type answer[T any] struct {
	x T
	e api.Errno
}

func answerOf[T any](x T, e api.Errno) answer[T] { return answer[T]{x, e} }

// good and bad are answers without and with an error.
func good[T any](x T) answer[T]          { return answer[T]{x: x} }
func bad[T any](e api.Errno) answer[T]   { return answer[T]{e: e} }
func errs(l ...api.Errno) []api.Errno    { return l }
func filled(n int, x byte) []byte        { return bytes.Repeat([]byte{x}, n) }
func join(l ...[]byte) []byte            { return slices.Concat(l...) }
func eight(first byte) []byte            { return []byte{first, 2, 3, 4, 5, 6, 7, 8} }
func chance(seed int64) *rand.Rand       { return rand.New(rand.NewSource(seed)) }
func pick[T any](r *rand.Rand, l ...T) T { return l[r.Intn(len(l))] }

// drawBytes draws bytes.
func drawBytes(r *rand.Rand, n int) []byte {
	b := make([]byte, n)
	for i := range b {
		b[i] = byte(r.Intn(256))
	}
	return b
}

// drawMask draws the mask of a cut: also one with which nothing, or all, is as it was, and one that is not the same for all records.
func drawMask(r *rand.Rand) []byte {
	switch r.Intn(8) {
	case 0:
		return nil
	case 1:
		return filled(pageBytes, 255)
	case 2:
		return filled(16*r.Intn(9), 255)
	case 3:
		return drawBytes(r, r.Intn(pageBytes+1))
	}
	var mask []byte
	for range 8 { // each record is erased, or as it was, or something else
		switch r.Intn(5) {
		case 0, 1:
			mask = append(mask, make([]byte, 16)...)
		case 2, 3:
			mask = append(mask, filled(16, 255)...)
		case 4:
			mask = append(mask, drawBytes(r, 16)...)
		}
	}
	return mask
}

// wildInts are numbers that are no index, no number of pages, and so on.
func wildInts() []int {
	return []int{-1, -2, -7, -64, math.MinInt, math.MinInt + 1, math.MinInt + 16, mostPages + 1, 1 << 31, 1 << 32, math.MaxInt - 6, math.MaxInt - 1, math.MaxInt}
}

// rawOf are the raw bytes of a page.
func rawOf(t *testing.T, f *update.Flash, page int) []byte {
	t.Helper()
	b, e := f.Raw(page)
	if len(b) != pageBytes || e != api.OK {
		t.Fatalf("Raw of the page %d: %v, %d", page, b, e)
	}
	return b
}

// allRaw are the raw bytes of all pages of a flash.
func allRaw(t *testing.T, f *update.Flash) []byte {
	t.Helper()
	var l []byte
	for p := range f.Pages() {
		l = append(l, rawOf(t, f, p)...)
	}
	return l
}

// recordRaw are the raw bytes of a record that holds some bytes.
func recordRaw(b []byte) []byte {
	var l []byte
	for _, x := range b {
		l = append(l, x, 255-x)
	}
	return l
}

// program programs a record, which has to be possible.
func program(t *testing.T, f *update.Flash, page, record int, b []byte) {
	t.Helper()
	same(t, f.Program(page, record, b), api.OK, "Program", page, record)
}

// tear makes a record torn, which was blank, by a cut.
func tear(t *testing.T, f *update.Flash, page, record int) {
	t.Helper()
	same(t, f.Cut(0, []byte{255, 255, 0}), api.OK, "Cut")
	same(t, f.Program(page, record, eight(1)), api.ErrDown, "Program that is cut")
	same(t, f.Restart(), api.OK, "Restart")
	_, what, e := f.Read(page, record)
	same(t, what, api.RecordTorn, "what a record is that was cut", e)
}

// put programs some of the records of a log, by pages and records: "1:7 - x" are a line, a blank record and a torn one.
func put(t *testing.T, f *update.Flash, first int, pages ...string) {
	t.Helper()
	for p, text := range pages {
		for i, word := range strings.Fields(text) {
			switch word {
			case "-":
			case "x":
				tear(t, f, first+p, i)
			default:
				l := lineOf(word)
				program(t, f, first+p, i, number([2]uint64{uint64(l.Number), 4}, [2]uint64{uint64(l.Value), 4}))
			}
		}
	}
}

// lineOf reads a line, such as 1:7.
func lineOf(word string) api.Line {
	n, v, _ := strings.Cut(word, ":")
	return api.Line{Number: uint32(atoi(n)), Value: uint32(atoi(v))}
}

// linesOf reads lines.
func linesOf(text string) []api.Line {
	var l []api.Line
	for _, word := range strings.Fields(text) {
		l = append(l, lineOf(word))
	}
	return l
}

// atoi reads a number.
func atoi(s string) uint64 {
	n := uint64(0)
	for _, c := range s {
		n = 10*n + uint64(c-'0')
	}
	return n
}
