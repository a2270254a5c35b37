package passport_test

import (
	"math"
	"math/rand"
	"reflect"
	"slices"
	"testing"

	"coulomb/api"
	"coulomb/passport"
)

// R4, P7.7 to P7.11: registries that NewRegistry has not made; ErrNil is before all others.
func TestRegistriesThatAreNotValid(t *testing.T) {
	for _, r := range []*passport.Registry{nil, {}, new(passport.Registry)} {
		for range 2 {
			for _, by := range []int{0, -1, 9, math.MinInt} {
				for _, e := range []api.Event{made(5, 1, 1, "b"), used(5, 1, 1), {}} {
					same(t, r.Enter(by, "p", e), api.ErrNil, "Enter", by, e)
					same(t, r.Enter(by, "", e), api.ErrNil, "Enter", by, e)
				}
				same(t, r.Move(by, 5, "p:0", "q"), api.ErrNil, "Move", by)
				same(t, r.Move(by, -5, "", ""), api.ErrNil, "Move", by)
				for _, name := range []string{"b", ""} {
					l, e := r.Recall(by, 5, name, 0, 5, "fire")
					sameList(t, l, nil, "Recall", by)
					same(t, e, api.ErrNil, "Recall", by)
				}
				same(t, r.Left(by), 0, "Left", by)
			}
			for _, name := range []string{"p", "", "p:0"} {
				l, e := r.Entries(name)
				sameList(t, l, nil, "Entries", name)
				same(t, e, api.ErrNil, "Entries", name)
				same(t, answerOf(r.Grade(name)), bad[int](api.ErrNil), "Grade", name)
				same(t, answerOf(r.Where(name)), bad[string](api.ErrNil), "Where", name)
			}
			if r.Copy() != nil || len(r.Packs()) != 0 {
				t.Errorf("a registry that is not valid: %v, %v", r.Copy(), r.Packs())
			}
		}
	}
}

// R4, P7.7: a copy does what the original would do, and neither changes the other one.
func TestCopies(t *testing.T) {
	for _, first := range []bool{true, false} { // which one goes on
		p := threePacks(t, twoBooks()...)
		p.move(0, 7, "p:1", "q", api.OK)
		p.enter(0, "p", recall(7, "a"), api.OK)
		p.enter(0, "p", recall(7, "b"), api.OK)
		c := pair{t, p.r.Copy(), p.m.clone()}
		if !first {
			p, c = c, p
		}
		p.move(1, 8, "p:0", "r", api.OK)
		p.move(1, 8, "p:1", "p", api.OK)
		p.enter(1, "p", cleared(8, "a"), api.OK)
		p.enter(1, "p", recall(8, "c"), api.OK)
		p.enter(1, "p", tested(9, 1), api.OK)
		p.enter(1, "s", made(9, 1, 1, "b1"), api.OK)
		p.enter(0, "q", scrap(9), api.OK)
		checkState(t, c.r, c.m)
		c.enter(0, "p", cleared(7, "a"), api.OK)
		c.enter(0, "p", cleared(7, "b"), api.OK)
		c.move(0, 7, "p:1", "r", api.OK)
		c.enter(0, "s", made(7, 2, 2, "b2"), api.OK)
		c.recall(call{0, 7, "b2", 0, 9, "d"}, api.OK, "s")
		c.enter(0, "p", used(7, 1, 1), api.OK)
		checkState(t, p.r, p.m)
		p.recall(call{0, 9, "b1", 0, 9, "d"}, api.OK, "p", "r", "s")
		checkState(t, c.r, c.m)
	}
}

// spoil changes all elements of a list, and what lies behind its end if there is room.
func spoil[T any](l []T, wrong T) {
	for i := range l[:cap(l)] {
		l[:cap(l)][i] = wrong
	}
}

// R5: a registry keeps no reference to its books, and gives out none to what it keeps.
func TestRegistriesShareNothing(t *testing.T) {
	books := twoBooks()
	p := pair{t, newRegistry(t, 31415926, books...), &registryModel{point: 31415926, books: twoBooks()}}
	p.enter(0, "p", made(5, 1000, 3, "b1"), api.OK)
	for i := range books {
		spoil(books[i].Pads, 1)
	}
	spoil(books, api.Book{})
	p.enter(1, "q", made(5, 1000, 3, "b1"), api.OK)
	p.enter(0, "p", used(5, 1, 1), api.OK)
	for _, name := range []string{"p", "q"} {
		a, b := entriesOf(t, p.r, name), entriesOf(t, p.r, name)
		want := slices.Clone(b)
		spoil(a, api.Entry{Pad: 9})
		sameList(t, b, want, "Entries, behind a change of others")
	}
	packs, again := p.r.Packs(), p.r.Packs()
	spoil(packs, "x")
	sameList(t, again, []string{"p", "q"}, "Packs, behind a change of others")
	l, e := p.r.Copy().Recall(0, 5, "b1", 0, 5, "fire")
	same(t, answerOf(len(l), e), good(2), "Recall")
	spoil(l, "x")
	c := p.r.Copy()
	spoil(entriesOf(t, c, "p"), api.Entry{})
	spoil(c.Packs(), "y")
	checkState(t, p.r, p.m)
	checkState(t, c, p.m)
	p.recall(call{0, 5, "b1", 0, 5, "fire"}, api.OK, "p", "q")
	p.enter(0, "q", used(5, 1, 1), api.OK)
}

// R5: no argument is changed, and no results share memory.
func TestListsShareNothing(t *testing.T) {
	s := usual()
	books, l, events := twoBooks(), slices.Clone(s.l), eventsOf(s.l)
	given := slices.Clone(events)
	msg, other := []byte{1, 2, 3, 4, 5}, []byte{6, 7, 8}
	roomy := append(make([]byte, 0, 20), msg...) // behind its end there is room
	passport.Digest(api.FieldLarge, 5, roomy)
	passport.Tag(api.FieldMiddle, 5, 6, roomy[:4])
	passport.Fits(api.FieldSmall, roomy, 1, other, 2)
	passport.Verify(s.point, s.books, s.name, s.l)
	passport.Legal("p", events)
	passport.Score("p", events)
	passport.Grade("p", events)
	first, _ := passport.Modules("p", events)
	again, _ := passport.Modules("p", events)
	want := slices.Clone(again)
	one, _ := passport.Bytes(events[0])
	two, _ := passport.Bytes(events[0])
	spoil(first, "x")
	spoil(one, 9)
	sameList(t, again, want, "Modules, behind a change of others")
	sameList(t, two, bytesOf(events[0]), "Bytes, behind a change of others")
	sameList(t, events, given, "the events behind calls")
	sameList(t, s.l, l, "the entries behind calls")
	sameList(t, roomy[:20], append([]byte{1, 2, 3, 4, 5}, make([]byte, 15)...), "the bytes behind calls")
	sameList(t, other, []byte{6, 7, 8}, "the bytes behind calls")
	if !reflect.DeepEqual(s.books, books) {
		t.Errorf("the books are changed: %v", s.books)
	}
	spoil(events, api.Event{})
	sameList(t, again, want, "Modules, behind a change of the events")
}

// R3: nil and empty lists are the same.
func TestNilAndEmpty(t *testing.T) {
	for field := range 3 {
		same(t, answerOf(passport.Digest(field, 5, nil)), answerOf(passport.Digest(field, 5, []byte{})), "Digest")
		same(t, answerOf(passport.Tag(field, 5, 6, nil)), answerOf(passport.Tag(field, 5, 6, []byte{})), "Tag")
		same(t, answerOf(passport.Fits(field, nil, 1, []byte{1}, 1)), answerOf(passport.Fits(field, []byte{}, 1, []byte{1}, 1)), "Fits")
		same(t, answerOf(passport.Fits(field, []byte{1}, 1, nil, 1)), answerOf(passport.Fits(field, []byte{1}, 1, []byte{}, 1)), "Fits")
	}
	for _, pads := range [][]uint64{nil, {}} {
		books := []api.Book{{Point: 1, Pads: pads}}
		r := newRegistry(t, 5, books...)
		same(t, r.Left(0), 0, "Left")
		same(t, r.Enter(0, "p", made(5, 1, 1, "b")), api.ErrOver, "Enter without pads")
		same(t, len(r.Packs()), 0, "the number of packs")
		same(t, foundOf(passport.Verify(5, books, "p", []api.Entry{{Event: made(5, 1, 1, "b")}})), wrongAt(0), "Verify without pads")
		l, e := r.Recall(0, 5, "b", 0, 5, "fire")
		sameList(t, l, nil, "Recall without packs")
		same(t, e, api.OK, "Recall without packs")
	}
}

// wildArguments are arguments of all kinds, possible ones and others.
type wildArguments struct {
	field, n, by    int
	point, pad, tag uint64
	msg, other      []byte
	e               api.Event
	text, name      string
	module, reason  string
	events          []api.Event
	books           []api.Book
	entries         []api.Entry
	at, from, to    int64
}

// drawNumber draws any number.
func drawNumber(r *rand.Rand) int64 {
	if r.Intn(3) == 0 {
		return pick(r, wildNumbers()...)
	}
	return r.Int63n(int64(1)<<r.Intn(63)) - pick[int64](r, 0, 0, 1<<r.Intn(63))
}

// drawWild draws arguments.
func drawWild(r *rand.Rand, texts []string, books [][]api.Book) wildArguments {
	number := func(good int64) int64 { return drawAny(r, good, drawNumber(r)) }
	name := func() string { return drawAny(r, pick(r, "p", "q", drawName(r)), wildNames()...) }
	a := wildArguments{
		field: int(number(drawInt(r, 0, 2))), n: int(number(drawInt(r, 0, 1000))), by: int(number(drawInt(r, 0, 1))), point: uint64(number(drawInt(r, 1, 256))), pad: uint64(number(drawInt(r, 0, 256))), tag: uint64(number(drawInt(r, 0, 256))),
		msg: drawBytes(r, int(drawFrom(r, 0, 1002))), other: drawBytes(r, int(drawFrom(r, 0, 9))), e: drawAny(r, drawNext(r, 5), drawEvent(r)), name: name(), module: drawAny(r, pick(r, goodModules()...), wildModules()...), reason: name(),
		books: drawAny(r, twoBooks(), books...), events: drawHistory(r, "p", r.Intn(9)), at: number(9), from: number(0), to: number(9),
	}
	a.e.At, a.e.A, a.e.B = number(a.e.At), number(a.e.A), number(a.e.B)
	a.e.Kind, a.e.Other = int(number(int64(a.e.Kind))), drawAny(r, a.e.Other, name())
	a.text = drawAny(r, textOf(a.e), append(texts, string(a.msg), a.name, a.module)...)
	if r.Intn(3) == 0 {
		a.events = append(a.events, a.e)
	}
	for i, e := range a.events {
		a.entries = append(a.entries, api.Entry{Event: e, By: drawAny(r, i%2, int(drawNumber(r))), Pad: drawAny(r, i, int(drawNumber(r))), Head: uint64(drawNumber(r)), Tag: uint64(drawNumber(r))})
	}
	return a
}

// outcome is what one call has returned: its error, and its other results.
type outcome struct {
	name  string
	errno api.Errno
	rest  []any
}

// returned is the outcome of a call with one result, or with more.
func returned(name string, e api.Errno, rest ...any) outcome { return outcome{name, e, rest} }

// callAll calls all functions that return an error.
func callAll(a wildArguments, r *passport.Registry) []outcome {
	words, e1 := passport.Words(a.field, a.n)
	digest, e2 := passport.Digest(a.field, a.point, a.msg)
	tag, e3 := passport.Tag(a.field, a.point, a.pad, a.msg)
	fits, e4 := passport.Fits(a.field&^1, a.msg, a.tag, a.other, a.pad)
	bytes, e5 := passport.Bytes(a.e)
	text, e6 := passport.Text(a.e)
	event, e7 := passport.Parse(a.text)
	n, ok, e8 := passport.Legal(a.name, a.events)
	modules, e9 := passport.Modules(a.name, a.events)
	l := []outcome{
		returned("Words", e1, words), returned("Digest", e2, digest), returned("Tag", e3, tag), returned("Fits", e4, fits), returned("Check", passport.Check(a.e)), returned("Bytes", e5, string(bytes)), returned("Text", e6, text), returned("Parse", e7, event),
		returned("Legal", e8, n, ok), returned("Modules", e9, len(modules)),
	}
	score, e1 := passport.Score(a.name, a.events)
	grade, e2 := passport.Grade(a.name, a.events)
	n, ok, e3 = passport.Verify(a.point, a.books, a.name, a.entries)
	l = append(l, returned("Score", e1, score), returned("Grade", e2, grade), returned("Verify", e3, n, ok))
	made, e1 := passport.NewRegistry(a.point, a.books)
	l = append(l, returned("NewRegistry", e1, made != nil), returned("Enter", r.Enter(a.by, a.name, a.e)), returned("Move", r.Move(a.by, a.at, a.module, a.name)))
	names, e1 := r.Recall(a.by, a.at, a.name, a.from, a.to, a.reason)
	entries, e2 := r.Entries(a.name)
	where, e3 := r.Where(a.module)
	grade, e4 = r.Grade(a.name)
	return append(l, returned("Recall", e1, len(names)), returned("Entries", e2, len(entries)), returned("Where", e3, where), returned("Grade", e4, grade), returned("Left", api.OK, r.Left(a.by), len(r.Packs())))
}

// P1, R2, R6, R7, R10: no arguments make a function panic; with an error all other results are zero, and nothing has changed; a call again returns the same.
func TestAnyArguments(t *testing.T) {
	r := chance(14)
	p, texts, books := threePacks(t, full(5, 30), full(6, 30)), noTexts(), wildBooks()
	for range 3000 {
		a := drawWild(r, texts, books)
		c := p.r.Copy()
		first, again := callAll(a, p.r.Copy()), callAll(a, c)
		for i, x := range first {
			for _, rest := range x.rest {
				if x.errno != api.OK && !reflect.ValueOf(rest).IsZero() {
					t.Errorf("%s returns %v with the error %d", x.name, rest, x.errno)
				}
			}
			if !reflect.DeepEqual(x, again[i]) {
				t.Errorf("%s does not return the same again: %v, %v", x.name, x, again[i])
			}
		}
		if !slices.ContainsFunc(first, func(x outcome) bool {
			return slices.Contains([]string{"Enter", "Move", "Recall"}, x.name) && x.errno == api.OK
		}) {
			checkState(t, c, p.m)
		}
	}
}
