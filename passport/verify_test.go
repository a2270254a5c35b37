package passport_test

import (
	"math"
	"slices"
	"testing"

	"coulomb/api"
	"coulomb/passport"
)

// sheet is what Verify gets.
type sheet struct {
	point uint64
	books []api.Book
	name  string
	l     []api.Entry
}

// written is a sheet with the entries of events that can follow, with drawn books and pads.
func written(seed int64, point uint64, books []api.Book, name string, events ...api.Event) sheet {
	r := chance(seed)
	s := sheet{point, books, name, nil}
	for _, e := range events {
		by, pad := 0, 0
		for isFirst := true; isFirst || isUsed(s.l, by, pad); isFirst = false {
			by = r.Intn(len(books))
			pad = r.Intn(len(books[by].Pads))
		}
		s.l = append(s.l, entryOf(point, books, name, s.l, by, pad, e))
	}
	return s
}

// usual is a sheet of a usual history.
func usual() sheet {
	return written(1, 1234567890, twoBooks(), "p", made(5, 1000, 2, "b1"), used(6, 50000, 2500), fault(7, 5), put(7, "q:0", "q"), tested(8, 950), take(8, "p:1", "r"), recall(9, "fire"), cleared(10, "fire"), used(10, 1, 1))
}

// checkVerify checks what Verify returns.
func checkVerify(t *testing.T, s sheet, want found) {
	t.Helper()
	same(t, foundOf(passport.Verify(s.point, s.books, s.name, s.l)), want, "Verify", s.point, s.name, len(s.l))
}

// P7.6: entries that are right, and parts of them.
func TestVerify(t *testing.T) {
	s := usual()
	for n := range len(s.l) + 1 {
		part := s
		part.l = s.l[:n]
		checkVerify(t, part, legal(n))
		checkVerify(t, part, wantVerified(part.point, part.books, part.name, part.l))
	}
	for _, point := range []uint64{1, 2, largePrime - 2, largePrime - 1} {
		for _, name := range goodNames() {
			books := []api.Book{full(1, 3), full(largePrime-1, 2), full(point, 5)}
			s := written(int64(point), point, books, name, made(0, 1, 1, name), used(mostTime, quantities, quantities), recall(mostTime, name), take(mostTime, name+":0", "x"))
			checkVerify(t, s, legal(4))
		}
	}
	checkVerify(t, sheet{1, []api.Book{book(1)}, "p", nil}, legal(0))
	checkVerify(t, sheet{1, []api.Book{book(1)}, "p", []api.Entry{}}, legal(0))
}

// P7.6: the heads and the tags of a small passport, reckoned by hand at points where that is easy.
func TestHeadsByHand(t *testing.T) {
	// With the point 1 a digest is the sum of the words; the name p has the words 1, and p, 1, 0.
	name := uint64(1 + 'p'*65536 + 256)
	e := made(5, 1, 0, "b")
	message := []byte{byte(name >> 24), byte(name >> 16), byte(name >> 8), byte(name), 1, 0, 0, 0, 0, 0, 0, 0, 5, 0, 0, 0, 0, 0, 0, 0, 1, 0, 0, 0, 0, 0, 0, 0, 0, 1, 'b', 0, 0}
	head := uint64(1)
	for i, x := range message {
		head += uint64(x) << (8 * (2 - i%3))
	}
	head += 1 << 16 // the byte 1 behind 33 bytes, and two of 0
	s := sheet{1, []api.Book{book(1, 100)}, "p", []api.Entry{{Event: e, Head: head, Tag: head + 100}}}
	checkVerify(t, s, legal(1))
	s.l[0].Head++
	checkVerify(t, s, wrongAt(0))
	s.l[0].Head, s.l[0].Tag = head, head
	checkVerify(t, s, wrongAt(0))
}

// P7.6, P7.16: an entry is changed in one thing.
func TestVerifyChangedEntries(t *testing.T) {
	good := usual()
	for i := range good.l {
		changes := []change[api.Entry]{
			func(x *api.Entry) { x.Event.Kind = x.Event.Kind%9 + 1 }, func(x *api.Entry) { x.Event.Kind = 0 }, func(x *api.Entry) { x.Event.Kind += 256 }, func(x *api.Entry) { x.Event.At++ }, func(x *api.Entry) { x.Event.At-- }, func(x *api.Entry) { x.Event.At += 1 << 41 },
			func(x *api.Entry) { x.Event.A++ }, func(x *api.Entry) { x.Event.A-- }, func(x *api.Entry) { x.Event.B++ }, func(x *api.Entry) { x.Event.B-- }, func(x *api.Entry) { x.Event.Name += "0" }, func(x *api.Entry) { x.Event.Other += "0" }, func(x *api.Entry) { x.Event.Name = "" }, func(x *api.Entry) { x.Event = api.Event{} },
			func(x *api.Entry) { x.By = 1 - x.By }, func(x *api.Entry) { x.By = 2 }, func(x *api.Entry) { x.By -= 2 }, func(x *api.Entry) { x.By += 256 }, func(x *api.Entry) { x.By = math.MinInt }, func(x *api.Entry) { x.By = math.MaxInt },
			func(x *api.Entry) { x.Pad++ }, func(x *api.Entry) { x.Pad-- }, func(x *api.Entry) { x.Pad = -1 }, func(x *api.Entry) { x.Pad = len(good.books[x.By].Pads) }, func(x *api.Entry) { x.Pad += 1 << 32 }, func(x *api.Entry) { x.Pad = math.MinInt }, func(x *api.Entry) { x.Pad = math.MaxInt },
			func(x *api.Entry) { x.Head++ }, func(x *api.Entry) { x.Head-- }, func(x *api.Entry) { x.Head = 0 }, func(x *api.Entry) { x.Head += largePrime }, func(x *api.Entry) { x.Head += 1 << 32 }, func(x *api.Entry) { x.Head = math.MaxUint64 }, func(x *api.Entry) { x.Head = x.Tag },
			func(x *api.Entry) { x.Tag++ }, func(x *api.Entry) { x.Tag-- }, func(x *api.Entry) { x.Tag = 0 }, func(x *api.Entry) { x.Tag += largePrime }, func(x *api.Entry) { x.Tag += 1 << 32 }, func(x *api.Entry) { x.Tag = math.MaxUint64 }, func(x *api.Entry) { x.Tag = x.Head },
		}
		for _, c := range changes {
			s := good
			s.l = slices.Clone(good.l)
			c(&s.l[i])
			if s.l[i] != good.l[i] {
				checkVerify(t, s, wrongAt(i))
				checkVerify(t, s, wantVerified(s.point, s.books, s.name, s.l))
			}
		}
	}
}

// P7.6, P7.16: entries are left out, put in, doubled and exchanged.
func TestVerifyListsThatAreChanged(t *testing.T) {
	good := usual()
	for i := range good.l {
		less, twice := good, good
		less.l, twice.l = slices.Delete(slices.Clone(good.l), i, i+1), slices.Insert(slices.Clone(good.l), i, good.l[i])
		want := wrongAt(i)
		if i == len(good.l)-1 {
			want = legal(i) // nothing is behind it
		}
		checkVerify(t, less, want)
		checkVerify(t, twice, wrongAt(i+1))
		for j := range i {
			swapped := good
			swapped.l = slices.Clone(good.l)
			swapped.l[i], swapped.l[j] = good.l[j], good.l[i]
			checkVerify(t, swapped, wrongAt(j))
		}
		pad := 0
		for isUsed(good.l, 1, pad) {
			pad++
		}
		for _, e := range []api.Event{used(good.l[i].Event.At, 0, 0), fault(good.l[i].Event.At, 1)} { // by one who has the books: what is behind it shows it
			more := good
			more.l = slices.Clone(good.l[:i+1])
			more.l = append(more.l, entryOf(good.point, good.books, "p", more.l, 1, pad, e))
			checkVerify(t, more, legal(i+2))
			more.l = append(more.l, good.l[i+1:]...)
			want := wrongAt(i + 2)
			if i == len(good.l)-1 {
				want = legal(i + 2)
			}
			checkVerify(t, more, want)
		}
	}
}

// P7.6, P7.16: with another point, other books, or another name.
func TestVerifyWithOtherSecrets(t *testing.T) {
	good := usual()
	first := [2]int{len(good.l), len(good.l)} // of each book
	for i, x := range slices.Backward(good.l) {
		first[x.By] = i
	}
	for _, point := range []uint64{1, 1234567889, 1234567891, largePrime - 1} {
		s := good
		s.point = point
		checkVerify(t, s, wrongAt(0))
		for by := range 2 {
			s := good
			s.books = twoBooks()
			s.books[by].Point = point
			checkVerify(t, s, wrongAt(first[by]))
		}
	}
	for by := range 2 {
		for i, x := range good.l {
			s := good
			s.books = twoBooks()
			s.books[x.By].Pads[x.Pad]++
			checkVerify(t, s, wrongAt(i))
		}
		s := good
		s.books = twoBooks()
		s.books[by].Pads = nil
		checkVerify(t, s, wrongAt(first[by]))
	}
	s := good
	s.books = append(twoBooks(), full(5, 5)) // one more is not used
	checkVerify(t, s, legal(len(good.l)))
	s.books = []api.Book{good.books[1], good.books[0]}
	checkVerify(t, s, wrongAt(0))
	s.books = good.books[:1]
	checkVerify(t, s, wrongAt(first[1]))
	for _, name := range []string{"q", "pp", "0", "p0"} {
		s := good
		s.name = name
		checkVerify(t, s, wrongAt(0))
	}
}

// P7.6: entries that have been written by one who knows everything, but with a pad that was used, or for an event that cannot follow.
func TestVerifyEntriesThatAreWrongOnlyByTheirEvents(t *testing.T) {
	books := []api.Book{full(5, 6), full(6, 6)}
	l := []api.Entry{}
	for i, u := range [][2]int{{0, 3}, {1, 3}, {0, 0}, {1, 5}} {
		l = append(l, entryOf(77, books, "p", l, u[0], u[1], append(begun(), used(5, 1, 1), used(5, 2, 1), used(5, 3, 1))[i]))
	}
	for by := range 2 {
		for pad := range 6 {
			next := entryOf(77, books, "p", l, by, pad, fault(6, 1))
			want := legal(5)
			if isUsed(l, by, pad) {
				want = wrongAt(4)
			}
			checkVerify(t, sheet{77, books, "p", append(l[:4:4], next)}, want)
		}
	}
	for _, e := range []api.Event{made(6, 1000, 2, "b1"), used(4, 1, 1), put(5, "p:0", "q"), put(5, "q:0", "p"), take(5, "p:2", "q"), take(5, "p:0", "p"), cleared(5, "a"), scrap(5), {}, {Kind: 4, At: 6}, {Kind: 4, At: 6, A: 1, B: 1}} {
		checkVerify(t, sheet{77, books, "p", append(l[:4:4], entryOf(77, books, "p", l, 1, 0, e))}, wrongAt(4))
	}
	for _, e := range []api.Event{used(6, 1, 1), scrap(6), {}, made(-1, 1, 0, "b"), made(5, 0, 0, "b")} {
		checkVerify(t, sheet{77, books, "p", []api.Entry{entryOf(77, books, "p", nil, 1, 0, e)}}, wrongAt(0))
	}
}

// P7.16: where digests of different messages are equal, an entry can be changed: at the point 1 just the sum of the words counts.
func TestEqualDigests(t *testing.T) {
	books := []api.Book{full(1, 5)}
	s := written(3, 1, books, "p", made(5, 1000, 2, "b1"), used(6, 0, 1), fault(7, 1))
	s.l[1].Event.A, s.l[1].Event.B = 256, 0
	checkVerify(t, s, legal(3))
	s.l[1].Event.A = 255
	checkVerify(t, s, wrongAt(1))
	other := written(3, 2, books, "p", made(5, 1000, 2, "b1"), used(6, 0, 1), fault(7, 1))
	other.l[1].Event.A, other.l[1].Event.B = 256, 0
	checkVerify(t, other, wrongAt(1)) // the heads differ
	other = written(3, 1, []api.Book{full(2, 5)}, "p", made(5, 1000, 2, "b1"), used(6, 0, 1), fault(7, 1))
	other.l[1].Event.A, other.l[1].Event.B = 256, 0
	checkVerify(t, other, wrongAt(1)) // the tags differ
}

// P7.6: errors, in their order.
func TestVerifyErrors(t *testing.T) {
	good := usual()
	long := make([]api.Entry, mostEvents+1)
	for _, point := range wildPoints() {
		for _, books := range [][]api.Book{good.books, nil, {{}}} {
			checkVerify(t, sheet{point, books, "p", nil}, notFound(api.ErrRange))
			checkVerify(t, sheet{point, books, "", long}, notFound(api.ErrRange))
		}
	}
	for _, books := range wildBooks() {
		checkVerify(t, sheet{good.point, books, "p", good.l}, notFound(api.ErrArg))
		checkVerify(t, sheet{good.point, books, "", long}, notFound(api.ErrArg))
	}
	for _, name := range append(wildNames(), goodModules()...) {
		checkVerify(t, sheet{good.point, good.books, name, nil}, notFound(api.ErrArg))
		checkVerify(t, sheet{good.point, good.books, name, long}, notFound(api.ErrArg))
	}
	for _, n := range []int{mostEvents + 1, mostEvents + 2, 1 << 16} {
		checkVerify(t, sheet{good.point, good.books, "p", make([]api.Entry, n)}, notFound(api.ErrMany))
	}
	checkVerify(t, sheet{good.point, good.books, "p", make([]api.Entry, mostEvents)}, wrongAt(0))
}

// P7.6: as many books, pads and entries as there can be.
func TestVerifyTheMost(t *testing.T) {
	var books []api.Book
	for i := range mostBooks {
		books = append(books, full(uint64(i+1), mostPads))
	}
	s := sheet{99, books, "p", nil}
	for i := range mostEvents {
		e := used(int64(i), int64(i), 1)
		if i == 0 {
			e = made(0, 1, 32, "b")
		}
		s.l = append(s.l, entryOf(99, books, "p", s.l, i%mostBooks, mostPads-1-i/mostBooks, e))
	}
	checkVerify(t, s, legal(mostEvents))
	again := s
	again.l = slices.Clone(s.l)
	again.l[mostEvents-1] = entryOf(99, books, "p", s.l[:mostEvents-1], 0, mostPads-1, s.l[mostEvents-1].Event) // the pad of the first one
	checkVerify(t, again, wrongAt(mostEvents-1))
	checkVerify(t, sheet{99, books, "p", append(s.l, s.l[0])}, notFound(api.ErrMany))
}
