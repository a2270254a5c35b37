package passport_test

import (
	"bytes"
	"fmt"
	"math/rand"
	"slices"
	"testing"

	"coulomb/api"
	"coulomb/passport"
)

// P7.12: different messages have the same digest at no more points than the longer one has words.
func TestDigestsOfDifferentMessages(t *testing.T) {
	r := chance(9)
	some := 0
	for i := range 2000 {
		field := api.FieldSmall
		if i%100 == 0 {
			field = api.FieldMiddle
		}
		m, other := drawBytes(r, r.Intn(8)), drawBytes(r, r.Intn(8))
		if bytes.Equal(m, other) {
			continue
		}
		tag := uint64(drawInt(r, 0, 256))
		n, e := passport.Fits(field, m, tag, other, tag)
		words, _ := passport.Words(field, max(len(m), len(other)))
		some += n
		if e != api.OK || n > words {
			t.Errorf("%v and %v have the same digest at %d points, but just %d words: %d", m, other, n, words, e)
		}
	}
	if some < 1000 {
		t.Errorf("just %d points were found", some)
	}
	for _, n := range []int{1, 5, 254} { // (x - 1) .. (x - n), and a message of which each word is less by that: they are equal at all of these points
		product := []int{1}
		for root := 1; root <= n; root++ {
			product = append(product, 0)
			for i := root; i > 0; i-- {
				product[i] = (product[i] + (257-root)*product[i-1]) % 257
			}
		}
		m, other := make([]byte, n+1), make([]byte, n+1)
		for i, x := range product {
			if m[i] = byte(x); x == 256 {
				m[i], other[i] = 0, 1
			}
		}
		same(t, answerOf(passport.Fits(api.FieldSmall, m, 3, other, 3)), good(n), "Fits of messages that are equal at many points", n)
	}
}

// P7.13: for all tags and forged tags of the small field, what fits for different messages, and for the same one.
func TestTagsOfDifferentMessages(t *testing.T) {
	for _, x := range [][2]string{{"", "\x00"}, {"\x00", "\x00\x00"}, {"a", "b"}, {"abc", "xyz"}, {"\x01\x00", "\x01"}} {
		words, _ := passport.Words(api.FieldSmall, max(len(x[0]), len(x[1])))
		for tag := range uint64(257) {
			sum := 0
			for forged := range uint64(257) {
				n, e := passport.Fits(api.FieldSmall, []byte(x[0]), tag, []byte(x[1]), forged)
				if n > words || e != api.OK {
					t.Errorf("%q with %d, and %q with %d: %d, %d", x[0], tag, x[1], forged, n, e)
				}
				sum += n
			}
			same(t, sum, 256, "the sum over all forged tags", x, tag)
		}
	}
	for forged := range uint64(257) {
		want := 0
		if forged == 5 {
			want = 256
		}
		same(t, answerOf(passport.Fits(api.FieldSmall, []byte("abc"), 5, []byte("abc"), forged)), good(want), "Fits of the same", forged)
	}
}

// P7.13: for each point there is just one pad with which a message has a tag.
func TestOnePadForEachTag(t *testing.T) {
	for point := uint64(1); point <= 256; point++ {
		seen := map[uint64]bool{}
		for pad := range uint64(257) {
			tag, e := passport.Tag(api.FieldSmall, point, pad, []byte("abc"))
			if e != api.OK || tag > 256 || seen[tag] {
				t.Errorf("Tag %d, %d: %d, %d", point, pad, tag, e)
			}
			seen[tag] = true
		}
	}
}

// drawMove draws something that is done to a registry, does it to both, and checks what they return.
func (p pair) drawMove(r *rand.Rand, at int64) {
	p.t.Helper()
	by := pick(r, 0, 0, 1, 1, 2)
	if r.Intn(20) == 0 {
		by = pick(r, -1, 3)
	}
	name := pick(r, "p", "q", "r", "s")
	module := pick(r, "p", "q", "r", "s") + ":" + pick(r, "0", "1", "2")
	at += pick[int64](r, 0, 0, 0, 0, 0, -1, -2, 1)
	switch r.Intn(8) {
	case 0, 1:
		e := made(max(0, at), drawInt(r, 1, 2000), drawInt(r, 0, 3), pick(r, "b1", "b2"))
		same(p.t, p.r.Enter(by, name, e), p.m.enter(by, name, e), "Enter", by, name, e)
	case 2, 3:
		e := drawNext(r, at)
		same(p.t, p.r.Enter(by, name, e), p.m.enter(by, name, e), "Enter", by, name, e)
	case 4, 5, 6:
		same(p.t, p.r.Move(by, at, module, name), p.m.move(by, at, module, name), "Move", by, at, module, name)
	default:
		batch, from, to, reason := pick(r, "b1", "b2", "b3"), drawInt(r, -1, 10), drawInt(r, 0, 30), pick(r, "a", "b", "c")
		l, e := p.r.Recall(by, at, batch, from, to, reason)
		want, wantError := p.m.recall(by, at, batch, from, to, reason)
		sameList(p.t, l, want, "Recall", by, at, batch, from, to, reason)
		same(p.t, e, wantError, "Recall", by, at, batch, from, to, reason)
	}
}

// P7.7 to P7.11: registries and their model, to which the same is done; and copies of both, to which something else is done then.
func TestRegistries(t *testing.T) {
	r := chance(10)
	for range 300 {
		p := newPair(t, full(uint64(drawInt(r, 1, largePrime-1)), r.Intn(30)), full(uint64(drawInt(r, 1, largePrime-1)), 30), full(5, r.Intn(4)))
		at := int64(0)
		for range 40 {
			at += pick[int64](r, 0, 1)
			p.drawMove(r, at)
		}
		checkState(t, p.r, p.m)
		c := pair{t, p.r.Copy(), p.m.clone()}
		checkState(t, c.r, c.m)
		for range 10 {
			c.drawMove(r, at+5)
			p.drawMove(r, at)
		}
		checkState(t, c.r, c.m)
		checkState(t, p.r, p.m)
		checkPromises(t, p)
	}
}

// checkPromises checks the properties of a registry.
func checkPromises(t *testing.T, p pair) {
	t.Helper()
	pads, holders, origins := map[[2]int]int{}, map[string]int{}, map[string]bool{}
	for _, name := range p.r.Packs() {
		l := entriesOf(t, p.r, name)
		events := eventsOf(l)
		grade, e := passport.Grade(name, events)
		same(t, answerOf(p.r.Grade(name)), answerOf(grade, e), "the grade of the entries of", name) // P7.15
		same(t, foundOf(passport.Verify(p.m.point, p.m.books, name, l)), legal(len(l)), "Verify", name)
		modules, _ := passport.Modules(name, events)
		for _, m := range modules {
			holders[m]++
		}
		for i := range l[0].Event.B {
			origins[fmt.Sprintf("%s:%d", name, i)] = true
		}
		for _, x := range l {
			pads[[2]int{x.By, x.Pad}]++
		}
	}
	for u, n := range pads { // P7.20
		same(t, n, 1, "how often a pad is used", u)
	}
	same(t, len(holders), len(origins), "modules, and those with which packs were made") // P7.17
	for m, n := range holders {
		same(t, n, 1, "in how many packs is", m)
		same(t, origins[m], true, "a pack was made with", m)
	}
}

// P7.15: the same name and the same events give the same grade, in other registries, with other secrets, whatever else is done.
func TestGradesOfEqualHistories(t *testing.T) {
	r := chance(11)
	for range 300 {
		l := drawHistory(r, "p", r.Intn(12))
		l = slices.DeleteFunc(l, func(e api.Event) bool { return e.Kind == api.EventPut || e.Kind == api.EventTake })
		for wantLegal("p", l).n < len(l) {
			l = l[:len(l)-1]
		}
		a, b := newRegistry(t, 5, full(5, 100)), newRegistry(t, 6, full(7, 3), full(9, 200))
		enterAll(t, a, "p", l...)
		enterAll(t, b, "q", made(0, 5, 3, "b"))
		for _, e := range l {
			b.Enter(1, "q", drawNext(r, 0))
			b = pick(r, b, b.Copy())
			same(t, b.Enter(1, "p", e), api.OK, "Enter", e)
			b.Enter(0, "q", fault(mostTime, 5))
		}
		want := wantGrade("p", l)
		same(t, answerOf(a.Grade("p")), want, "Grade", l)
		same(t, answerOf(b.Grade("p")), want, "Grade", l)
		same(t, answerOf(passport.Grade("p", l)), want, "Grade", l)
	}
}

// P7.16: if an entry that a registry returned is changed, left out, or put in, Verify finds one that is not right.
func TestForgery(t *testing.T) {
	r := chance(12)
	for range 60 {
		books := []api.Book{full(uint64(drawInt(r, 2, largePrime-1)), 60), full(uint64(drawInt(r, 2, largePrime-1)), 60)}
		p := pair{t, newRegistry(t, 31415926, books...), &registryModel{point: 31415926, books: books}}
		for i := range 40 {
			p.drawMove(r, int64(i/3))
		}
		for _, name := range p.r.Packs() {
			l := entriesOf(t, p.r, name)
			i := r.Intn(len(l))
			changed, less, more := slices.Clone(l), slices.Delete(slices.Clone(l), i, i+1), slices.Insert(slices.Clone(l), i, l[r.Intn(len(l))])
			pick(r, func(x *api.Entry) { x.Event.At += drawInt(r, 1, 9) }, func(x *api.Entry) { x.Event.A++ }, func(x *api.Entry) { x.Event.Name += "0" }, func(x *api.Entry) { x.By = 1 - x.By }, func(x *api.Entry) { x.Pad++ }, func(x *api.Entry) { x.Tag = (x.Tag + 1) % largePrime }, func(x *api.Entry) { x.Head = (x.Head + 1) % largePrime })(&changed[i])
			for _, forged := range [][]api.Entry{changed, less, more} {
				want := wantVerified(p.m.point, books, name, forged)
				same(t, foundOf(passport.Verify(p.m.point, books, name, forged)), want, "Verify of forged entries of", name)
				if want.ok && !(len(forged) < len(l) && i == len(l)-1) { // if the last one is left out, nothing behind it shows that
					t.Errorf("a forgery is not found: %v, of %v", forged, l)
				}
			}
		}
	}
}

// P7.18: behind a recall the reason is open in each pack that contains a module of the batch and the time, and in no other one in which it was not open before.
func TestRecallsReachAllPacks(t *testing.T) {
	r := chance(13)
	reached := 0
	for range 300 {
		p := newPair(t, full(8, 100), full(9, 100), full(10, 100))
		for i := range 30 {
			p.drawMove(r, int64(i/3))
		}
		before := p.m.clone()
		batch, from, to := pick(r, "b1", "b2"), drawInt(r, 0, 4), drawInt(r, 2, 12)
		if _, e := p.r.Recall(0, 30, batch, from, to, "a"); e != api.OK {
			t.Fatalf("Recall: %d", e)
		}
		for i := range before.packs {
			old := &before.packs[i]
			events := eventsOf(entriesOf(t, p.r, old.name))
			concerned := slices.ContainsFunc(old.modules(), func(m string) bool {
				first := before.find(m[:1]).entries[0].Event
				return first.Name == batch && from <= first.At && first.At <= to
			})
			same(t, isOpen(events, "a"), concerned || isOpen(old.events(), "a"), "the reason is open in", old.name)
			same(t, isOpen(events, "b"), isOpen(old.events(), "b"), "another reason is open in", old.name)
			if concerned {
				reached++
			}
		}
	}
	if reached < 200 {
		t.Errorf("just %d packs were recalled", reached)
	}
}
