package passport_test

import (
	"fmt"
	"math"
	"slices"
	"testing"

	"coulomb/api"
	"coulomb/passport"
)

// pair is a registry and the model of it, which get the same calls.
type pair struct {
	t *testing.T
	r *passport.Registry
	m *registryModel
}

// newPair returns a registry without packs, and its model.
func newPair(t *testing.T, books ...api.Book) pair {
	t.Helper()
	return pair{t, newRegistry(t, 31415926, books...), &registryModel{point: 31415926, books: books}}
}

// enter enters an event, and checks the error.
func (p pair) enter(by int, name string, e api.Event, want api.Errno) {
	p.t.Helper()
	same(p.t, p.m.enter(by, name, e), want, "the model: Enter", by, name, e)
	same(p.t, p.r.Enter(by, name, e), want, "Enter", by, name, e)
	checkState(p.t, p.r, p.m)
}

// move moves a module, and checks the error.
func (p pair) move(by int, at int64, module, to string, want api.Errno) {
	p.t.Helper()
	same(p.t, p.m.move(by, at, module, to), want, "the model: Move", by, at, module, to)
	same(p.t, p.r.Move(by, at, module, to), want, "Move", by, at, module, to)
	checkState(p.t, p.r, p.m)
}

// call is the arguments of Recall.
type call struct {
	by       int
	at       int64
	batch    string
	from, to int64
	reason   string
}

// recall recalls a batch, and checks the error and the names.
func (p pair) recall(c call, want api.Errno, names ...string) {
	p.t.Helper()
	l, e := p.m.recall(c.by, c.at, c.batch, c.from, c.to, c.reason)
	sameList(p.t, l, names, "the model: Recall", c)
	same(p.t, e, want, "the model: Recall", c)
	l, e = p.r.Recall(c.by, c.at, c.batch, c.from, c.to, c.reason)
	sameList(p.t, l, names, "Recall", c)
	same(p.t, e, want, "Recall", c)
	checkState(p.t, p.r, p.m)
}

// P7.7: a registry has no packs at first, and all pads.
func TestNewRegistry(t *testing.T) {
	for _, point := range []uint64{1, 2, largePrime - 1} {
		for _, books := range [][]api.Book{{book(1)}, {book(largePrime-1, 0, largePrime-1)}, twoBooks(), slices.Repeat([]api.Book{full(5, 3)}, 8), {full(7, mostPads), book(7), full(7, 1)}} {
			r := newRegistry(t, point, books...)
			if len(r.Packs()) != 0 {
				t.Errorf("Packs: %v", r.Packs())
			}
			for i, b := range books {
				same(t, r.Left(i), len(b.Pads), "Left", i)
			}
			same(t, answerOf(r.Where("p:0")), bad[string](api.ErrNone), "Where")
		}
	}
	for _, point := range wildPoints() {
		for _, books := range append(wildBooks(), twoBooks()) { // ErrRange is before ErrArg
			r, e := passport.NewRegistry(point, books)
			if r != nil || e != api.ErrRange {
				t.Errorf("NewRegistry %d: %v, %d", point, r, e)
			}
		}
	}
	for _, books := range wildBooks() {
		r, e := passport.NewRegistry(1, books)
		if r != nil || e != api.ErrArg {
			t.Errorf("NewRegistry of %d books: %v, %d", len(books), r, e)
		}
	}
}

// P7.8: what is entered, by two books, in two packs.
func TestEnter(t *testing.T) {
	p := newPair(t, twoBooks()...)
	p.enter(0, "p", made(5, 1000, 2, "b1"), api.OK)
	p.enter(1, "q", made(5, 1, 0, "b2"), api.OK)
	p.enter(1, "p", used(6, 50000, 2500), api.OK)
	p.enter(0, "p", fault(7, 5), api.OK)
	p.enter(1, "q", recall(6, "a"), api.OK)
	p.enter(1, "p", tested(8, 950), api.OK)
	p.enter(0, "q", cleared(6, "a"), api.OK)
	p.enter(1, "q", scrap(6), api.OK)
	p.enter(0, "0", made(0, mostCapacity, mostModules, "0"), api.OK) // also an earlier one
	l := entriesOf(t, p.r, "p")
	for i, want := range [][2]int{{0, 0}, {1, 1}, {0, 1}, {1, 3}} {
		same(t, [2]int{l[i].By, l[i].Pad}, want, "By and Pad of the entry", i)
	}
	sameList(t, p.r.Packs(), []string{"p", "q", "0"}, "Packs")
	same(t, answerOf(p.r.Grade("p")), good(api.GradeA), "Grade")
	same(t, answerOf(p.r.Grade("q")), good(api.GradeScrap), "Grade")
	same(t, p.r.Left(0), 36, "Left")
	same(t, p.r.Left(1), 55, "Left")
}

// P7.8: the errors of Enter, alone.
func TestEnterErrors(t *testing.T) {
	p := newPair(t, twoBooks()...)
	p.enter(0, "p", made(5, 1000, 2, "b1"), api.OK)
	for _, by := range wildIndexes(2) {
		p.enter(by, "p", used(5, 1, 1), api.ErrRange)
		p.enter(by, "q", made(5, 1, 1, "b"), api.ErrRange)
	}
	for _, name := range append(wildNames(), goodModules()...) {
		same(t, p.r.Enter(0, name, used(5, 1, 1)), api.ErrArg, "Enter", name)
		same(t, p.r.Enter(0, name, made(5, 1, 1, "b")), api.ErrArg, "Enter", name)
	}
	for _, e := range variants(false) {
		same(t, p.r.Enter(0, "p", e), api.ErrArg, "Enter", e)
		same(t, p.r.Enter(0, "q", e), api.ErrArg, "Enter", e)
	}
	for _, e := range []api.Event{put(5, "q:0", "q"), put(5, "p:5", "p"), take(5, "p:0", "q"), take(5, "p:1", "p"), {Kind: api.EventPut}, {Kind: api.EventTake}} {
		p.enter(0, "p", e, api.ErrArg)
	}
	p.enter(0, "p", made(5, 1000, 2, "b1"), api.ErrHave)
	p.enter(0, "p", made(6, 1, 0, "b2"), api.ErrHave)
	for _, e := range []api.Event{used(5, 1, 1), tested(5, 1), fault(5, 1), recall(5, "a"), cleared(5, "a"), scrap(5)} {
		p.enter(0, "q", e, api.ErrNone)
	}
	for _, e := range []api.Event{used(4, 1, 1), tested(0, 1), fault(4, 1), recall(4, "a"), cleared(5, "a"), scrap(5)} {
		p.enter(0, "p", e, api.ErrState)
	}
	p.enter(0, "p", recall(6, "a"), api.OK)
	p.enter(0, "p", recall(6, "a"), api.ErrState)
	p.enter(0, "p", cleared(6, "b"), api.ErrState)
	p.enter(0, "q", made(5, 1, 0, "b1"), api.OK)
	p.enter(0, "q", scrap(5), api.OK)
	for _, e := range []api.Event{used(5, 1, 1), tested(5, 1), fault(5, 1), recall(5, "a"), scrap(5)} {
		p.enter(0, "q", e, api.ErrState)
	}
	checkState(t, p.r, p.m)
}

// fullRegistry is a registry with a pack p of as many events as there can be, and a pack q of one less; the first book has no pads left, the second one has two.
func fullRegistry(t *testing.T) *passport.Registry {
	t.Helper()
	r := newRegistry(t, 5, full(5, 2*mostEvents-1), full(6, 2), book(7))
	enterAll(t, r, "p", begun(times(mostEvents-1, used(6, 0, 0))...)...)
	enterAll(t, r, "q", append([]api.Event{made(5, 1000, 2, "b2")}, times(mostEvents-2, used(6, 0, 0))...)...)
	return r
}

// P7.8: full histories, and books without pads.
func TestEnterWithoutRoom(t *testing.T) {
	r := fullRegistry(t)
	same(t, r.Left(0), 0, "Left")
	same(t, r.Enter(1, "p", used(6, 0, 0)), api.ErrFull, "Enter in a full history")
	same(t, r.Enter(0, "p", used(6, 0, 0)), api.ErrFull, "Enter without a pad in a full history")
	same(t, r.Enter(1, "p", used(5, 0, 0)), api.ErrState, "Enter what cannot follow in a full history")
	same(t, r.Enter(0, "p", cleared(6, "a")), api.ErrState, "Enter what cannot follow in a full history")
	same(t, r.Enter(0, "p", made(6, 1, 1, "b")), api.ErrHave, "Enter once more")
	same(t, r.Enter(0, "q", used(6, 0, 0)), api.ErrOver, "Enter without a pad")
	same(t, r.Enter(2, "q", used(6, 0, 0)), api.ErrOver, "Enter without a pad")
	same(t, r.Enter(0, "q", used(5, 0, 0)), api.ErrState, "Enter without a pad what cannot follow")
	same(t, r.Enter(0, "r", used(5, 0, 0)), api.ErrNone, "Enter without a pad in no pack")
	same(t, r.Enter(0, "r", made(5, 1, 0, "b")), api.ErrOver, "Enter a new pack without a pad")
	sameList(t, r.Packs(), []string{"p", "q"}, "Packs")
	same(t, r.Enter(1, "q", used(6, 0, 0)), api.OK, "Enter the last event")
	same(t, r.Enter(1, "q", used(6, 0, 0)), api.ErrFull, "Enter one more")
	same(t, r.Left(1), 1, "Left")
	same(t, r.Enter(1, "r", made(5, 1, 0, "b")), api.OK, "Enter a new pack")
	same(t, r.Enter(1, "r", scrap(5)), api.ErrOver, "Enter without a pad")
	same(t, foundOf(passport.Verify(5, []api.Book{full(5, 2*mostEvents-1), full(6, 2)}, "q", entriesOf(t, r, "q"))), legal(mostEvents), "Verify of a full history")
}

// P7.8: as many packs as there can be.
func TestMostPacks(t *testing.T) {
	r := newRegistry(t, 5, full(5, mostPacks+1), book(6))
	var names []string
	for i := range mostPacks {
		names = append(names, fmt.Sprintf("p%d", (i*37)%mostPacks))
		enterAll(t, r, names[i], made(int64(i), 1, int64(i%3), "b"))
	}
	for _, by := range []int{0, 1} { // ErrFull is before ErrOver
		same(t, r.Enter(by, "q", made(5, 1, 0, "b")), api.ErrFull, "Enter one more pack")
		same(t, r.Enter(by, "p5", made(5, 1, 0, "b")), api.ErrHave, "Enter a pack that is there")
	}
	same(t, r.Enter(2, "q", made(5, 1, 0, "b")), api.ErrRange, "Enter by nobody")
	same(t, r.Enter(1, "q", made(5, 0, 0, "b")), api.ErrArg, "Enter what is not valid")
	same(t, r.Enter(0, "q", used(5, 0, 0)), api.ErrNone, "Enter in no pack")
	sameList(t, r.Packs(), names, "Packs")
	same(t, r.Enter(0, names[0], used(5, 0, 0)), api.OK, "Enter in the first pack")
	same(t, r.Left(0), 0, "Left")
	l, e := r.Recall(1, mostTime, "b", 0, 50, "x")
	sameList(t, l, nil, "Recall without pads")
	same(t, e, api.ErrOver, "Recall without pads")
	for i, name := range names {
		want := good(name)
		if i%3 == 0 {
			want = bad[string](api.ErrNone)
		}
		same(t, answerOf(r.Where(name+":0")), want, "Where", name)
	}
}

// P7.8: the order of the errors of Enter: a flaw is told before those behind it.
func TestEnterOrder(t *testing.T) {
	p := newPair(t, full(5, 5), book(6))
	p.enter(0, "p", made(5, 1, 0, "b"), api.OK)
	p.enter(0, "p", used(6, 1, 1), api.OK)
	for _, name := range []string{"", "p", "q"} {
		for _, e := range []api.Event{{}, used(4, 1, 1), used(6, 1, 1), put(6, "p:0", "q"), made(5, 1, 0, "b"), scrap(5)} {
			for _, by := range []int{-1, 0, 1, 2} {
				want := p.m.clone().enter(by, name, e)
				if want != api.OK {
					p.enter(by, name, e, want)
				}
			}
		}
	}
	p.enter(2, "", api.Event{}, api.ErrRange)
	p.enter(1, "", api.Event{}, api.ErrArg)
	p.enter(1, "p", made(5, 1, 0, "b"), api.ErrHave)
	p.enter(1, "q", used(6, 1, 1), api.ErrNone)
	p.enter(1, "p", used(5, 1, 1), api.ErrState)
	p.enter(1, "p", used(6, 1, 1), api.ErrOver)
	p.enter(1, "q", made(6, 1, 1, "b"), api.ErrOver)
}

// threePacks is a registry with the packs p, with 2 modules, q, without any, and r, with one.
func threePacks(t *testing.T, books ...api.Book) pair {
	t.Helper()
	p := newPair(t, books...)
	p.enter(0, "p", made(5, 1000, 2, "b1"), api.OK)
	p.enter(0, "q", made(6, 1000, 0, "b2"), api.OK)
	p.enter(0, "r", made(7, 1000, 1, "b1"), api.OK)
	return p
}

// P7.9: modules are moved to and fro.
func TestMove(t *testing.T) {
	p := threePacks(t, twoBooks()...)
	p.move(1, 7, "p:1", "q", api.OK)
	same(t, answerOf(p.r.Where("p:1")), good("q"), "Where")
	same(t, entriesOf(t, p.r, "p")[1].Event, take(7, "p:1", "q"), "the event in p")
	same(t, entriesOf(t, p.r, "q")[1].Event, put(7, "p:1", "p"), "the event in q")
	same(t, entriesOf(t, p.r, "p")[1].Pad, 0, "the pad in p")
	same(t, entriesOf(t, p.r, "q")[1].Pad, 1, "the pad in q")
	p.move(0, 8, "p:1", "r", api.OK)
	p.move(0, 8, "r:0", "p", api.OK)
	p.move(1, 9, "p:1", "p", api.OK)
	p.move(1, mostTime, "p:1", "r", api.OK)
	p.enter(0, "q", scrap(mostTime), api.OK)
	same(t, entriesOf(t, p.r, "p")[3].Event, put(9, "p:1", "r"), "the event in p")
	same(t, answerOf(p.r.Where("p:0")), good("p"), "Where")
	same(t, answerOf(p.r.Where("r:0")), good("p"), "Where")
	same(t, answerOf(p.r.Where("p:1")), good("r"), "Where")
	p.move(1, mostTime, "p:1", "p", api.OK)
	p.move(1, mostTime, "p:0", "r", api.OK)
	sameList(t, p.m.find("p").modules(), []string{"r:0", "p:1"}, "the modules of p")
	sameList(t, p.m.find("r").modules(), []string{"p:0"}, "the modules of r")
}

// P7.9: the errors of Move, alone.
func TestMoveErrors(t *testing.T) {
	p := threePacks(t, twoBooks()...)
	for _, by := range wildIndexes(2) {
		p.move(by, 7, "p:1", "q", api.ErrRange)
	}
	for _, module := range append(wildModules(), goodNames()...) {
		p.move(0, 7, module, "q", api.ErrArg)
	}
	for _, to := range append(wildNames(), goodModules()...) {
		p.move(0, 7, "p:1", to, api.ErrArg)
	}
	for _, at := range wildNumbers() {
		p.move(0, at, "p:1", "q", api.ErrArg)
	}
	for _, module := range []string{"p:2", "p:31", "q:0", "r:1", "s:0"} {
		p.move(0, 7, module, "q", api.ErrNone)
		p.move(0, 7, module, "p", api.ErrNone)
	}
	p.move(0, 7, "p:1", "s", api.ErrNone)
	p.move(0, 7, "p:1", "p", api.ErrState)
	p.move(0, 7, "r:0", "r", api.ErrState)
	p.move(0, 4, "p:1", "q", api.ErrState)
	p.move(0, 5, "p:1", "q", api.ErrState) // q is later
	p.move(0, 6, "r:0", "q", api.ErrState) // r is later
	p.move(0, 0, "p:1", "q", api.ErrState)
	p.enter(0, "q", scrap(9), api.OK)
	p.move(0, 9, "p:1", "q", api.ErrState)
	p.move(0, 9, "p:1", "r", api.OK)
	p.move(0, 8, "p:1", "p", api.ErrState)
	p.move(0, 9, "p:1", "r", api.ErrState)
}

// P7.9: packs with all modules that they can have.
func TestMoveIntoFullPack(t *testing.T) {
	p := newPair(t, full(5, 30))
	p.enter(0, "p", made(5, 1, mostModules, "b"), api.OK)
	p.enter(0, "q", made(5, 1, 2, "b"), api.OK)
	p.move(0, 5, "q:0", "p", api.ErrState)
	p.move(0, 5, "p:31", "q", api.OK)
	p.move(0, 5, "q:0", "p", api.OK)
	p.move(0, 5, "q:1", "p", api.ErrState)
	p.move(0, 5, "p:31", "p", api.ErrState)
	p.move(0, 5, "p:0", "q", api.OK)
	p.move(0, 5, "p:31", "p", api.OK)
}

// P7.9: full histories, and books with less than two pads.
func TestMoveWithoutRoom(t *testing.T) {
	r := fullRegistry(t) // p is full, q has room for one event
	r2 := newRegistry(t, 5, full(5, 600), full(6, 1), full(7, 2), book(8))
	enterAll(t, r2, "p", begun()...)
	enterAll(t, r2, "q", append([]api.Event{made(5, 1000, 2, "b2")}, times(mostEvents-2, used(6, 0, 0))...)...)
	same(t, r.Move(1, 6, "p:0", "q"), api.ErrFull, "Move from a full history")
	same(t, r.Move(1, 6, "q:0", "p"), api.ErrFull, "Move into a full history")
	same(t, r.Move(2, 6, "q:0", "p"), api.ErrFull, "Move into a full history without pads")
	same(t, r.Move(1, 5, "p:0", "q"), api.ErrState, "Move too early from a full history")
	same(t, r.Move(1, 6, "p:0", "p"), api.ErrState, "Move within a full history")
	same(t, r.Move(1, 6, "p:5", "q"), api.ErrNone, "Move of what is not there")
	for by, want := range []api.Errno{api.OK, api.ErrOver, api.OK, api.ErrOver} {
		c := r2.Copy()
		same(t, c.Move(by, 6, "p:0", "q"), want, "Move by", by)
		if want == api.OK {
			same(t, c.Left(by), r2.Left(by)-2, "Left", by)
			same(t, c.Move(by, 6, "q:1", "p"), api.ErrFull, "Move from the history that is full now")
			same(t, c.Move(by, 6, "p:1", "q"), api.ErrFull, "Move into the history that is full now")
		} else {
			same(t, c.Left(by), r2.Left(by), "Left", by)
			same(t, len(entriesOf(t, c, "p")), 1, "the entries of p, behind an error")
			same(t, c.Move(by, 5, "p:0", "q"), api.ErrState, "Move by", by)
			same(t, c.Move(by, 6, "p:3", "q"), api.ErrNone, "Move by", by)
		}
	}
}

// P7.9: the order of the errors of Move.
func TestMoveOrder(t *testing.T) {
	p := threePacks(t, full(5, 3), book(6))
	for _, by := range []int{-1, 0, 1, 2} {
		for _, at := range []int64{-1, 5, 9} {
			for _, module := range []string{"", "p", "p:1", "r:0", "s:0"} {
				for _, to := range []string{"", "p", "q", "r", "s"} {
					want := p.m.clone().move(by, at, module, to)
					if want == api.OK {
						t.Errorf("Move %d, %d, %s, %s: possible", by, at, module, to)
					}
					p.move(by, at, module, to, want)
				}
			}
		}
	}
	p.move(2, -1, "", "", api.ErrRange)
	p.move(1, -1, "s:0", "s", api.ErrArg)
	p.move(1, 5, "s:0", "r", api.ErrNone)
	p.move(1, 5, "p:1", "r", api.ErrState)
	p.move(1, 9, "p:1", "r", api.ErrOver)
}

// P7.10: what is affected: by the batch, the time, and the reason.
func TestRecall(t *testing.T) {
	p := threePacks(t, twoBooks()...)
	p.move(0, 7, "p:1", "q", api.OK)
	p.recall(call{0, 8, "b1", 0, 5, "fire"}, api.OK, "p", "q")
	p.recall(call{0, 8, "b1", 0, 5, "fire"}, api.OK)
	same(t, answerOf(p.r.Grade("p")), good(api.GradeRecall), "Grade")
	same(t, answerOf(p.r.Grade("q")), good(api.GradeRecall), "Grade")
	same(t, answerOf(p.r.Grade("r")), good(api.GradeA), "Grade")
	p.recall(call{1, 9, "b1", 0, mostTime, "fire"}, api.OK, "r")
	p.recall(call{1, 9, "b1", 7, 7, "a"}, api.OK, "r")
	p.recall(call{1, 9, "b1", 6, 6, "b"}, api.OK)
	p.recall(call{1, 9, "b1", 6, mostTime, "b"}, api.OK, "r")
	p.recall(call{1, 9, "b1", 7, 5, "c"}, api.OK) // no time at all
	p.recall(call{1, 9, "b1", 5, 4, "c"}, api.OK)
	p.recall(call{1, 9, "b2", 0, mostTime, "c"}, api.OK) // the modules in q are none of this batch
	p.recall(call{1, 9, "b3", 0, mostTime, "c"}, api.OK)
	p.recall(call{1, 9, "b1", 5, 7, "c"}, api.OK, "p", "q", "r")
	p.enter(0, "q", cleared(10, "c"), api.OK)
	p.recall(call{1, 10, "b1", 0, 6, "c"}, api.OK, "q")
	p.move(1, 11, "p:1", "r", api.OK)
	p.move(1, 11, "p:0", "r", api.OK)
	p.recall(call{1, 11, "b1", 0, 6, "d"}, api.OK, "r")
	p.recall(call{1, 11, "b1", 0, 7, "d"}, api.OK)
	p.recall(call{1, 11, "b1", 7, 7, "e"}, api.OK, "r")
	p.move(1, 12, "r:0", "p", api.OK)
	p.recall(call{1, 12, "b1", 7, 7, "f"}, api.OK, "p")
	p.recall(call{1, 12, "b1", 5, 5, "g"}, api.OK, "r")
	p.enter(1, "q", scrap(13), api.OK)
	p.recall(call{1, mostTime, "b1", 0, mostTime, "h"}, api.OK, "p", "r")
}

// P7.10: the errors of Recall.
func TestRecallErrors(t *testing.T) {
	p := threePacks(t, twoBooks()...)
	right := call{0, 9, "b1", 0, 9, "fire"}
	for _, by := range wildIndexes(2) {
		p.recall(with(right, func(c *call) { c.by = by }), api.ErrRange)
		p.recall(call{by, -1, "", -1, -1, ""}, api.ErrRange)
	}
	for _, name := range append(wildNames(), goodModules()...) {
		p.recall(with(right, func(c *call) { c.batch = name }), api.ErrArg)
		p.recall(with(right, func(c *call) { c.reason = name }), api.ErrArg)
	}
	for _, n := range wildNumbers() {
		p.recall(with(right, func(c *call) { c.at = n }), api.ErrArg)
		p.recall(with(right, func(c *call) { c.from = n }), api.ErrArg)
		p.recall(with(right, func(c *call) { c.to = n }), api.ErrArg)
	}
	for at, want := range map[int64]api.Errno{0: api.ErrState, 4: api.ErrState, 5: api.ErrState, 6: api.ErrState} { // r is of 7
		p.recall(with(right, func(c *call) { c.at = at }), want)
		p.recall(with(right, func(c *call) { c.at, c.batch = at, "b3" }), api.OK) // nothing is affected
	}
	p.recall(with(right, func(c *call) { c.at, c.to = 4, 6 }), api.ErrState)
	p.recall(with(right, func(c *call) { c.at, c.to = 5, 6 }), api.OK, "p") // r is not affected
	p.recall(with(right, func(c *call) { c.at = 6 }), api.ErrState)
	p.recall(with(right, func(c *call) { c.at = 7 }), api.OK, "r")
	p.recall(with(right, func(c *call) { c.at = 0 }), api.OK) // the reason is open
}

// P7.10: full histories, and too few pads; ErrState is before ErrFull, and ErrFull before ErrOver, whichever pack is the first one.
func TestRecallWithoutRoom(t *testing.T) {
	for _, first := range []string{"p", "q"} {
		second := map[string]string{"p": "q", "q": "p"}[first]
		r := newRegistry(t, 5, full(5, 600), full(6, 1), full(7, 2), book(8))
		enterAll(t, r, first, begun()...)
		enterAll(t, r, second, begun()...)
		enterAll(t, r, "p", used(9, 0, 0))
		same(t, answerOf(len(entriesOf(t, r, "p")), api.OK), good(2), "entries")
		for by, want := range []api.Errno{api.OK, api.ErrOver, api.OK, api.ErrOver} {
			c := r.Copy()
			l, e := c.Recall(by, 9, "b1", 5, 5, "fire")
			same(t, e, want, "Recall by", by)
			same(t, len(l), map[api.Errno]int{api.OK: 2}[want], "Recall by", by)
			same(t, r.Left(by)-c.Left(by), len(l), "the pads that Recall took", by)
			_, e = c.Recall(by, 8, "b1", 5, 5, "water")
			same(t, e, api.ErrState, "Recall too early by", by)
		}
		l, e := r.Copy().Recall(1, 9, "b1", 6, 6, "fire") // no pads are needed
		same(t, answerOf(len(l), e), good(0), "Recall of nothing")
		enterAll(t, r, "q", times(mostEvents-1, used(6, 0, 0))...)
		for by := range 4 {
			_, e = r.Recall(by, 9, "b1", 5, 5, "fire")
			same(t, e, api.ErrFull, "Recall in a full history by", by)
			_, e = r.Recall(by, 8, "b1", 5, 5, "fire")
			same(t, e, api.ErrState, "Recall too early in a full history by", by)
			_, e = r.Recall(by, 8, "b1", 6, 6, "fire")
			same(t, e, api.OK, "Recall of nothing by", by)
		}
		same(t, len(entriesOf(t, r, "p")), 2, "the entries behind an error")
	}
}

// P7.10: one more pack than there are pads.
func TestRecallByPads(t *testing.T) {
	r := newRegistry(t, 5, full(5, 10), full(6, 2), full(7, 3))
	for _, name := range []string{"c", "a", "b"} {
		enterAll(t, r, name, made(5, 1, 1, "b1"))
	}
	_, e := r.Recall(1, 9, "b1", 5, 5, "fire")
	same(t, e, api.ErrOver, "Recall with two pads")
	same(t, r.Left(1), 2, "Left")
	l, e := r.Recall(2, 9, "b1", 5, 5, "fire")
	sameList(t, l, []string{"c", "a", "b"}, "Recall with three pads")
	same(t, e, api.OK, "Recall with three pads")
	for i, name := range l {
		same(t, entriesOf(t, r, name)[1].Pad, i, "the pad of", name)
		same(t, entriesOf(t, r, name)[1].Event, recall(9, "fire"), "the event of", name)
	}
}

// P7.11: what is asked about packs, modules and books that there are not.
func TestQueries(t *testing.T) {
	p := threePacks(t, full(5, 10), full(6, 3))
	for _, name := range slices.Concat(wildNames(), goodModules(), []string{"s", "pp", "0", "made"}) {
		l, e := p.r.Entries(name)
		sameList(t, l, nil, "Entries", name)
		same(t, e, api.ErrNone, "Entries", name)
		same(t, answerOf(p.r.Grade(name)), bad[int](api.ErrNone), "Grade", name)
	}
	for _, module := range append(wildModules(), goodNames()...) {
		same(t, answerOf(p.r.Where(module)), bad[string](api.ErrArg), "Where", module)
	}
	for _, module := range []string{"p:2", "p:31", "q:0", "r:1", "s:0", "pp:0"} {
		same(t, answerOf(p.r.Where(module)), bad[string](api.ErrNone), "Where", module)
	}
	for module, name := range map[string]string{"p:0": "p", "p:1": "p", "r:0": "r"} {
		same(t, answerOf(p.r.Where(module)), good(name), "Where", module)
	}
	for _, by := range append(wildIndexes(2), math.MinInt32, math.MaxInt32) {
		same(t, p.r.Left(by), 0, "Left", by)
	}
	same(t, p.r.Left(0), 7, "Left")
	same(t, p.r.Left(1), 3, "Left")
	sameList(t, p.r.Packs(), []string{"p", "q", "r"}, "Packs")
	checkState(t, p.r, p.m)
}
