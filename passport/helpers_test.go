package passport_test

import (
	"math"
	"math/rand"
	"slices"
	"strings"
	"testing"

	"coulomb/api"
	"coulomb/passport"
)

// The limits that the chapter names.
const (
	largePrime   = 2147483647
	mostTime     = 1 << 40
	quantities   = 1 << 40
	mostCapacity = 1 << 32
	mostName     = 20
	mostModules  = 32
	mostEvents   = 500
	mostPacks    = 100
	mostBooks    = 8
	mostPads     = 5000
	mostMessage  = 1000
)

// change changes a value that is made.
type change[T any] func(x *T)

// with returns a value that is changed.
func with[T any](x T, changes ...change[T]) T {
	for _, c := range changes {
		c(&x)
	}
	return x
}

func made(at, capacity, modules int64, batch string) api.Event {
	return api.Event{Kind: api.EventMade, At: at, A: capacity, B: modules, Name: batch}
}
func used(at, through, hot int64) api.Event {
	return api.Event{Kind: api.EventUse, At: at, A: through, B: hot}
}
func tested(at, measured int64) api.Event {
	return api.Event{Kind: api.EventTest, At: at, A: measured}
}
func fault(at, cause int64) api.Event { return api.Event{Kind: api.EventFault, At: at, A: cause} }
func put(at int64, module, from string) api.Event {
	return api.Event{Kind: api.EventPut, At: at, Name: module, Other: from}
}
func take(at int64, module, to string) api.Event {
	return api.Event{Kind: api.EventTake, At: at, Name: module, Other: to}
}
func recall(at int64, reason string) api.Event {
	return api.Event{Kind: api.EventRecall, At: at, Name: reason}
}
func cleared(at int64, reason string) api.Event {
	return api.Event{Kind: api.EventClear, At: at, Name: reason}
}
func scrap(at int64) api.Event { return api.Event{Kind: api.EventScrap, At: at} }

// times repeats an event.
func times(n int, e api.Event) []api.Event { return slices.Repeat([]api.Event{e}, n) }

// parsed are the events with some texts.
func parsed(t *testing.T, texts ...string) []api.Event {
	t.Helper()
	var l []api.Event
	for _, s := range texts {
		e, errno := passport.Parse(s)
		if errno != api.OK {
			t.Fatalf("Parse %q: %d", s, errno)
		}
		l = append(l, e)
	}
	return l
}

// book is a book with a point and some pads.
func book(point uint64, pads ...uint64) api.Book { return api.Book{Point: point, Pads: pads} }

// full is a book with n pads.
func full(point uint64, n int) api.Book {
	b := book(point)
	for i := range n {
		b.Pads = append(b.Pads, uint64(i*i+7)*1000003%largePrime)
	}
	return b
}

// twoBooks are books of usual numbers of pads.
func twoBooks() []api.Book { return []api.Book{full(987654321, 40), full(123456789, 60)} }

// wildBooks are no valid lists of books.
func wildBooks() [][]api.Book {
	good := twoBooks()
	l := [][]api.Book{nil, {}, slices.Repeat(good[:1], 9), slices.Repeat(good[:1], 200)}
	for _, b := range []api.Book{{}, book(0, 1), book(largePrime), book(largePrime+1, 2), book(math.MaxUint64), book(1<<32 + 5), book(5, largePrime), book(5, 1, 2, 1<<32, 3), book(5, math.MaxUint64), full(5, mostPads+1), full(5, 10000), full(0, mostPads+1)} {
		l = append(l, []api.Book{b}, append(slices.Clone(good), b), append([]api.Book{b}, good...))
	}
	return l
}

// wildPoints are no points of the large field.
func wildPoints() []uint64 {
	return []uint64{0, largePrime, largePrime + 1, 1 << 31, 1 << 32, 1<<32 + 1, 1 << 63, math.MaxUint64 - 1, math.MaxUint64}
}

// wildNames are no names.
func wildNames() []string {
	return []string{"", " ", "A", "aA", "é", "a b", " a", "a ", "a:", "a:0", ":", "a-b", "a_b", "a.b", "`", "{", "/", "\x00", "a\n", "\xff", "٣", "a0b1c2d3e4f5g6h7i8j9k", strings.Repeat("a", 21), strings.Repeat("z", 276), strings.Repeat("9", 1<<16)}
}

// goodNames are names.
func goodNames() []string {
	return []string{"a", "z", "0", "9", "p", "b1", "00", "007", "az09", "made", "a0b1c2d3e4f5g6h7i8j9", strings.Repeat("z", 20), strings.Repeat("0", 20)}
}

// goodModules are modules.
func goodModules() []string {
	return []string{"p:0", "p:1", "p:9", "p:10", "p:19", "p:29", "p:30", "p:31", "0:0", "9:9", "z:20", strings.Repeat("a", 20) + ":0", strings.Repeat("9", 20) + ":31"}
}

// wildModules are no modules.
func wildModules() []string {
	return []string{"", "p", ":", "p:", ":0", ":31", "p:32", "p:33", "p:40", "p:100", "p:00", "p:01", "p:010", "p:-0", "p:-1", "p:+1", "p:+0", "p:1 ", "p: 1", " p:1", "p :1", "p:1:", "p:1:1", "p::1", "p:x", "p:1x", "p:0x1", "p:1_0", "p:١", "P:1", "p.1", "p1", "p:4294967296", "p:18446744073709551616", "p:99999999999999999999", "p:" + strings.Repeat("0", 100), "p:" + strings.Repeat("1", 1<<16), strings.Repeat("a", 21) + ":1", strings.Repeat("a", 1<<16) + ":1"}
}

// wildNumbers are beyond every limit.
func wildNumbers() []int64 {
	return []int64{math.MinInt64, math.MinInt64 + 1, -1 << 62, -1 << 41, -1 << 32, -1, quantities + 1, 1 << 41, 1 << 62, math.MaxInt64 - 1, math.MaxInt64}
}

// wildIndexes are the indexes of none of n things.
func wildIndexes(n int) []int {
	l := []int{-1, -2, n, n + 1, 1 << 8, 1 << 16, 1 << 32, -1 << 32, math.MinInt, math.MaxInt}
	return slices.DeleteFunc(l, func(i int) bool { return 0 <= i && i < n })
}

// same checks that a call returns what is wanted.
func same[T comparable](t *testing.T, got, want T, call string, arguments ...any) {
	t.Helper()
	if got != want {
		t.Errorf("%s %v: %v, not %v", call, arguments, got, want)
	}
}

// sameList checks that a call returns the list that is wanted.
func sameList[T comparable](t *testing.T, got, want []T, call string, arguments ...any) {
	t.Helper()
	if !slices.Equal(got, want) {
		t.Errorf("%s %v: %v, not %v", call, arguments, got, want)
	}
}

// answer is what a function returns that has one other result than an error.
type answer[T any] struct {
	x T
	e api.Errno
}

func answerOf[T any](x T, e api.Errno) answer[T] { return answer[T]{x, e} }
func good[T any](x T) answer[T]                  { return answer[T]{x: x} }
func bad[T any](e api.Errno) answer[T]           { return answer[T]{e: e} }

// found is what Legal and Verify return.
type found struct {
	n  int
	ok bool
	e  api.Errno
}

func foundOf(n int, ok bool, e api.Errno) found { return found{n, ok, e} }
func legal(n int) found                         { return found{n: n, ok: true} }
func wrongAt(n int) found                       { return found{n: n} }
func notFound(e api.Errno) found                { return found{e: e} }

// newRegistry returns a registry.
func newRegistry(t *testing.T, point uint64, books ...api.Book) *passport.Registry {
	t.Helper()
	r, e := passport.NewRegistry(point, books)
	if e != api.OK || r == nil {
		t.Fatalf("NewRegistry: %v, %d", r, e)
	}
	return r
}

// enterAll enters events, by the first book.
func enterAll(t *testing.T, r *passport.Registry, name string, l ...api.Event) {
	t.Helper()
	for i, e := range l {
		if errno := r.Enter(0, name, e); errno != api.OK {
			t.Fatalf("Enter %v, the event %d of %s: %d", e, i, name, errno)
		}
	}
}

// entriesOf returns the entries of a pack.
func entriesOf(t *testing.T, r *passport.Registry, name string) []api.Entry {
	t.Helper()
	l, e := r.Entries(name)
	if e != api.OK {
		t.Fatalf("Entries %q: %d", name, e)
	}
	return l
}

// eventsOf are the events of entries.
func eventsOf(l []api.Entry) []api.Event {
	var events []api.Event
	for _, x := range l {
		events = append(events, x.Event)
	}
	return events
}

// chance draws the same numbers in each run.
func chance(seed int64) *rand.Rand { return rand.New(rand.NewSource(seed)) }

// pick draws one of some values.
func pick[T any](r *rand.Rand, l ...T) T { return l[r.Intn(len(l))] }

// drawInt draws a number from lo to hi.
func drawInt(r *rand.Rand, lo, hi int64) int64 { return lo + r.Int63n(hi-lo+1) }

// drawFrom draws a number from lo to hi: an end, one near to the lower end, one of a size that is drawn first, or any one.
func drawFrom(r *rand.Rand, lo, hi int64) int64 {
	size := int64(1) << r.Intn(42)
	return min(hi, pick(r, lo, hi, lo+drawInt(r, 0, 3), lo+drawInt(r, 0, size), drawInt(r, lo, hi)))
}

// drawAny draws a value, mostly the good one.
func drawAny[T any](r *rand.Rand, good T, wild ...T) T {
	if r.Intn(8) > 0 {
		return good
	}
	return pick(r, wild...)
}

// drawBytes draws a message of n bytes, of which often many are alike.
func drawBytes(r *rand.Rand, n int) []byte {
	l := make([]byte, n)
	kind := r.Intn(3)
	for i := range l {
		l[i] = [3]byte{byte(r.Intn(256)), pick[byte](r, 0, 1, 255), 0}[kind]
	}
	return l
}

// drawName draws a name.
func drawName(r *rand.Rand) string {
	l := make([]byte, drawFrom(r, 1, mostName))
	for i := range l {
		l[i] = "abcdefghijklmnopqrstuvwxyz0123456789"[r.Intn(36)]
	}
	return string(l)
}

// drawEvent draws a valid event, with any values.
func drawEvent(r *rand.Rand) api.Event {
	at := drawFrom(r, 0, mostTime)
	module := drawName(r) + ":" + pick(r, "0", "1", "9", "10", "25", "31")
	return pick(r,
		made(at, drawFrom(r, 1, mostCapacity), drawFrom(r, 0, mostModules), drawName(r)), used(at, drawFrom(r, 0, quantities), drawFrom(r, 0, quantities)), tested(at, drawFrom(r, 0, mostCapacity)),
		fault(at, drawInt(r, 1, 12)), put(at, module, drawName(r)), take(at, module, drawName(r)), recall(at, drawName(r)), cleared(at, drawName(r)), scrap(at))
}
