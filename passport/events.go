package passport

import (
	"strconv"
	"strings"

	"coulomb/api"
)

// What stands between the words of a text, and between the origin of a module and its number.
const (
	betweenWords = " "
	behindOrigin = ":"
)

// mostWords is how many words the text of an event has at most: the kind, three numbers and a name.
const mostWords = 5

// shape says how the events of a kind look.
type shape struct {
	word    string
	numbers int // how many of A and B are in the text
	a, b    api.Span
	names   int // how many of Name and Other are; if both are, Name is a module
}

// shapes are those of all kinds; there is no kind 0.
var shapes = [...]shape{
	api.EventMade:   {word: "made", numbers: 2, a: api.Span{Lo: 1, Hi: api.MaxCapacity}, b: api.Span{Lo: 0, Hi: api.MaxModules}, names: 1},
	api.EventUse:    {word: "use", numbers: 2, a: api.Span{Lo: 0, Hi: api.MaxQuantity}, b: api.Span{Lo: 0, Hi: api.MaxQuantity}},
	api.EventTest:   {word: "test", numbers: 1, a: api.Span{Lo: 0, Hi: api.MaxCapacity}},
	api.EventFault:  {word: "fault", numbers: 1, a: api.Span{Lo: api.CauseOver, Hi: api.CauseBack}},
	api.EventPut:    {word: "put", names: 2},
	api.EventTake:   {word: "take", names: 2},
	api.EventRecall: {word: "recall", names: 1},
	api.EventClear:  {word: "clear", names: 1},
	api.EventScrap:  {word: "scrap"},
}

// Check reports whether an event is valid. (P7.3)
func Check(e api.Event) api.Errno {
	if !isValid(e) {
		return api.ErrArg
	}
	return api.OK
}

// Bytes returns the bytes of an event. (P7.3)
func Bytes(e api.Event) ([]byte, api.Errno) {
	if !isValid(e) {
		return nil, api.ErrArg
	}
	return bytesOf(e), api.OK
}

// Text returns the text of an event. (P7.3)
func Text(e api.Event) (string, api.Errno) {
	if !isValid(e) {
		return "", api.ErrArg
	}
	s := shapes[e.Kind]
	words := []string{s.word}
	for _, n := range s.numbersOf(&e) {
		words = append(words, strconv.FormatInt(*n, 10))
	}
	for _, name := range s.namesOf(&e) {
		words = append(words, *name)
	}
	return strings.Join(words, betweenWords), api.OK
}

// Parse reads an event. (P7.3)
func Parse(s string) (api.Event, api.Errno) {
	e := read(strings.SplitN(s, betweenWords, mostWords+1))   // one word too many shows that there are too many
	if text, errno := Text(e); errno != api.OK || text != s { // numbers can also be read that are not written so
		return api.Event{}, api.ErrForm
	}
	return e, api.OK
}

// read reads an event from the words of its text; one of the kind 0 if they are not those of any kind.
func read(words []string) api.Event {
	for kind, s := range shapes {
		e := api.Event{Kind: kind}
		numbers, names := s.numbersOf(&e), s.namesOf(&e)
		if words[0] != s.word || len(words) != 1+len(numbers)+len(names) {
			continue
		}
		for i, n := range numbers {
			*n, _ = strconv.ParseInt(words[1+i], 10, 64)
		}
		for i, name := range names {
			*name = words[1+len(numbers)+i]
		}
		return e
	}
	return api.Event{}
}

// numbersOf returns the numbers of an event that are in its text, in this order.
func (s shape) numbersOf(e *api.Event) []*int64 {
	return []*int64{&e.At, &e.A, &e.B}[:1+s.numbers]
}

// namesOf returns the names of an event that are in its text, in this order.
func (s shape) namesOf(e *api.Event) []*string {
	return []*string{&e.Name, &e.Other}[:s.names]
}

// isValid reports whether an event is valid.
func isValid(e api.Event) bool {
	if e.Kind < api.EventMade || e.Kind > api.EventScrap {
		return false
	}
	s := shapes[e.Kind]
	return isTime(e.At) && isIn(s.a, e.A) && isIn(s.b, e.B) && s.fits(e.Name, e.Other)
}

// fits reports whether two names are as they are in events of this shape.
func (s shape) fits(name, other string) bool {
	switch s.names {
	case 0:
		return name == "" && other == ""
	case 1:
		return isName(name) && other == ""
	}
	return isModule(name) && isName(other)
}

// isIn reports whether a number is in a span.
func isIn(s api.Span, n int64) bool { return s.Lo <= n && n <= s.Hi }

// isTime reports whether a number is a time.
func isTime(at int64) bool { return isIn(api.Span{Lo: 0, Hi: api.MaxTime}, at) }

// isName reports whether a text is a name.
func isName(s string) bool {
	if len(s) < 1 || len(s) > api.MaxName {
		return false
	}
	for i := range len(s) {
		if c := s[i]; (c < 'a' || c > 'z') && (c < '0' || c > '9') {
			return false
		}
	}
	return true
}

// isModule reports whether a text is what a module is called.
func isModule(s string) bool {
	origin, number, _ := strings.Cut(s, behindOrigin)
	n, _ := strconv.Atoi(number)
	return isName(origin) && 0 <= n && n < api.MaxModules && s == moduleOf(origin, n)
}

// moduleOf returns what the module n of a pack is called.
func moduleOf(origin string, n int) string { return origin + behindOrigin + strconv.Itoa(n) }

// originOf returns the pack with which a module was made.
func originOf(module string) string {
	origin, _, _ := strings.Cut(module, behindOrigin)
	return origin
}

// bytesOf returns the bytes of an event that is valid.
func bytesOf(e api.Event) []byte {
	l := []byte{byte(e.Kind)}
	for _, n := range []int64{e.At, e.A, e.B} {
		l = appendNumber(l, 8, uint64(n))
	}
	for _, name := range []string{e.Name, e.Other} {
		l = append(l, byte(len(name)))
		l = append(l, name...)
	}
	return l
}
