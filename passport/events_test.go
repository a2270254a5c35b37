package passport_test

import (
	"math"
	"slices"
	"strconv"
	"strings"
	"testing"

	"coulomb/api"
	"coulomb/passport"
)

// kindOf is a kind of events: one of them, from where to where At, A and B are, and what Name and Other can be.
type kindOf struct {
	event       api.Event
	from, to    [3]int64
	name, other func(s string) bool
}

// kinds are all kinds.
func kinds() []kindOf {
	none := func(s string) bool { return s == "" }
	return []kindOf{
		{made(5, 1000, 2, "b1"), [3]int64{0, 1, 0}, [3]int64{mostTime, mostCapacity, mostModules}, isName, none},
		{used(5, 7, 8), [3]int64{}, [3]int64{mostTime, quantities, quantities}, none, none},
		{tested(5, 7), [3]int64{}, [3]int64{mostTime, mostCapacity, 0}, none, none},
		{fault(5, 7), [3]int64{0, 1, 0}, [3]int64{mostTime, 12, 0}, none, none},
		{put(5, "p:0", "q"), [3]int64{}, [3]int64{mostTime, 0, 0}, isModule, isName},
		{take(5, "p:0", "q"), [3]int64{}, [3]int64{mostTime, 0, 0}, isModule, isName},
		{recall(5, "fire"), [3]int64{}, [3]int64{mostTime, 0, 0}, isName, none},
		{cleared(5, "fire"), [3]int64{}, [3]int64{mostTime, 0, 0}, isName, none},
		{scrap(5), [3]int64{}, [3]int64{mostTime, 0, 0}, none, none},
	}
}

// numbersOf are the numbers of an event.
func numbersOf(e *api.Event) []*int64 { return []*int64{&e.At, &e.A, &e.B} }

// variants are all events with one number, or one name, changed to a possible one, if so is true, or to another one.
func variants(so bool) []api.Event {
	var l []api.Event
	for _, k := range kinds() {
		for i := range 3 {
			for _, n := range append(wildNumbers(), k.from[i]-1, k.from[i], k.from[i]+1, k.to[i]-1, k.to[i], k.to[i]+1, k.from[i]+1<<32, k.from[i]-1<<32) {
				e := k.event
				*numbersOf(&e)[i] = n
				if so == (k.from[i] <= n && n <= k.to[i]) {
					l = append(l, e)
				}
			}
		}
		for _, s := range slices.Concat(goodNames(), wildNames(), goodModules(), wildModules()) {
			if so == k.name(s) {
				l = append(l, with(k.event, func(e *api.Event) { e.Name = s }))
			}
			if so == k.other(s) {
				l = append(l, with(k.event, func(e *api.Event) { e.Other = s }))
			}
		}
	}
	return l
}

// checkEvent checks what is told of a valid event.
func checkEvent(t *testing.T, e api.Event) {
	t.Helper()
	same(t, passport.Check(e), api.OK, "Check", e)
	same(t, answerOf(passport.Text(e)), good(textOf(e)), "Text", e)
	same(t, answerOf(passport.Parse(textOf(e))), good(e), "Parse", textOf(e))
	l, errno := passport.Bytes(e)
	sameList(t, l, bytesOf(e), "Bytes", e)
	same(t, errno, api.OK, "Bytes", e)
}

// checkWildEvent checks what is told of an event that is not valid.
func checkWildEvent(t *testing.T, e api.Event) {
	t.Helper()
	same(t, passport.Check(e), api.ErrArg, "Check", e)
	same(t, answerOf(passport.Text(e)), bad[string](api.ErrArg), "Text", e)
	l, errno := passport.Bytes(e)
	sameList(t, l, nil, "Bytes", e)
	same(t, errno, api.ErrArg, "Bytes", e)
}

// P7.3: events of all kinds, with all bounds.
func TestEvents(t *testing.T) {
	for _, k := range kinds() {
		checkEvent(t, k.event)
	}
	for _, e := range variants(true) {
		checkEvent(t, e)
	}
	r := chance(4)
	for range 5000 {
		checkEvent(t, drawEvent(r))
	}
}

// P7.3: events that are not valid, because of one thing.
func TestWildEvents(t *testing.T) {
	for _, e := range variants(false) {
		checkWildEvent(t, e)
	}
	for _, kind := range []int{0, -1, 10, 11, 256 + 1, 1<<16 + 2, 1<<32 + 1, -1<<32 + 9, math.MinInt, math.MaxInt} {
		for _, k := range kinds() {
			checkWildEvent(t, with(k.event, func(e *api.Event) { e.Kind = kind }))
		}
		checkWildEvent(t, api.Event{Kind: kind})
	}
	checkWildEvent(t, api.Event{})
}

// P7.3: an event of a kind with what belongs to another one.
func TestKindsAreNotMixed(t *testing.T) {
	for _, k := range kinds() {
		for kind := 1; kind <= 9; kind++ {
			e := with(k.event, func(e *api.Event) { e.Kind = kind })
			if isValid(e) {
				checkEvent(t, e)
			} else {
				checkWildEvent(t, e)
			}
		}
	}
}

// P7.3: texts and bytes that are written by hand.
func TestTextsByHand(t *testing.T) {
	for s, e := range map[string]api.Event{
		"made 5 1000 2 b1":                      made(5, 1000, 2, "b1"),
		"made 0 1 0 0":                          made(0, 1, 0, "0"),
		"made 1099511627776 4294967296 32 made": made(mostTime, mostCapacity, 32, "made"),
		"use 6 50000 2500":                      used(6, 50000, 2500),
		"use 0 0 0":                             used(0, 0, 0),
		"use 1099511627776 1099511627776 1099511627776": used(mostTime, quantities, quantities),
		"test 8 950":    tested(8, 950),
		"test 8 0":      tested(8, 0),
		"fault 7 12":    fault(7, 12),
		"put 9 p:0 q":   put(9, "p:0", "q"),
		"put 9 0:31 0":  put(9, "0:31", "0"),
		"take 9 p:10 q": take(9, "p:10", "q"),
		"recall 9 fire": recall(9, "fire"),
		"clear 9 7":     cleared(9, "7"),
		"scrap 10":      scrap(10),
	} {
		same(t, answerOf(passport.Text(e)), good(s), "Text", e)
		same(t, answerOf(passport.Parse(s)), good(e), "Parse", s)
	}
	for _, x := range []struct {
		e    api.Event
		want string
	}{
		{made(5, 1000, 2, "b1"), "\x01" + "\x00\x00\x00\x00\x00\x00\x00\x05" + "\x00\x00\x00\x00\x00\x00\x03\xe8" + "\x00\x00\x00\x00\x00\x00\x00\x02" + "\x02b1" + "\x00"},
		{used(1<<40, 0x1020304050, 0xff), "\x02" + "\x00\x00\x01\x00\x00\x00\x00\x00" + "\x00\x00\x00\x10\x20\x30\x40\x50" + "\x00\x00\x00\x00\x00\x00\x00\xff" + "\x00" + "\x00"},
		{put(0, "p:0", "qrs"), "\x05" + strings.Repeat("\x00", 24) + "\x03p:0" + "\x03qrs"},
		{scrap(256), "\x09" + "\x00\x00\x00\x00\x00\x00\x01\x00" + strings.Repeat("\x00", 16) + "\x00\x00"},
	} {
		l, e := passport.Bytes(x.e)
		same(t, answerOf(string(l), e), good(x.want), "Bytes", x.e)
	}
}

// noTexts are no texts of events.
func noTexts() []string {
	l := []string{
		"", " ", "  ", "5", " 5", "made", "use", "scrap", "scrap ", "scrap 5 ", " scrap 5", "scrap  5", "scrap 5 5", "scrap 5 a", "scrap -5", "scrap +5", "scrap 05", "scrap 00", "scrap -0", "scrap 5.0", "scrap 0x5", "scrap 1_000", "scrap 1e3", "scrap five", "scrap\t5", "scrap 5\n", "\nscrap 5", "scrap\u00a05", "scrap ٥", "Scrap 5", "SCRAP 5", "scraps 5", "scra 5", "scrap5", "scrap 5\x00",
		"scrap 1099511627777", "scrap 9223372036854775807", "scrap 9223372036854775808", "scrap 18446744073709551616", "scrap 18446744073709551621", "scrap 99999999999999999999999999",
		"put 9 p:00 q", "put 9 p:32 q", "put 9 p q", "put 9 p:0", "put 9 p:0 q 0", "put 9 p:0 q q", "put 9 q p:0", "put 9 p:0 q:0", "put 9 p:-0 q", "put 9 :0 q", "put 9 p:0 Q", "put p:0 q", "put 9 p:0  q", "put 9 0 0 p:0 q", "put 9  q", "put 9 p:0 ",
		"use 9 1", "use 9 1 1 1", "use 9 1 1 a", "use 9 01 1", "use 9 1 01", "use 9 -1 1", "use 9 1 1099511627777", "use 9 1099511627777 1", "use 9  1 1",
		"made 5 0 2 b1", "made 5 4294967297 2 b1", "made 5 1000 33 b1", "made 5 1000 2", "made 5 1000 2 b1 b2", "made 5 1000 2 B1", "made 5 1000 2 b:1", "made 5 1000 b1 2", "made 5 1000 2 ", "made 5 1000 02 b1", "made 5 1000 2 abcdefghijklmnopqrstu",
		"test 8", "test 8 4294967297", "test 8 1 1", "test 8 a", "fault 7", "fault 7 0", "fault 7 13", "fault 7 05", "fault 7 5 5",
		"recall 9", "recall 9 ", "recall 9 Fire", "recall fire", "recall fire 9", "recall 9 fire fire", "recall 9 fire ", "clear 9", "clear 9 f!", "clear 9 fi re",
		"none 5", "0 5", "1 5 1000 2 b1", "guard 5", "EventScrap 5",
	}
	return append(l, "scrap "+strings.Repeat("5", 1<<16), "scrap 5"+strings.Repeat(" ", 1<<16), strings.Repeat("scrap 5", 1<<14), strings.Repeat("scrap 5 ", 1<<14), strings.Repeat(" ", 1<<18), "recall 5 "+strings.Repeat("a", 1<<18))
}

// P7.3, R8: texts that no event has.
func TestNoTexts(t *testing.T) {
	for _, s := range noTexts() {
		same(t, answerOf(passport.Parse(s)), bad[api.Event](api.ErrForm), "Parse", s[:min(len(s), 60)])
	}
	for _, k := range kinds() { // words that are missing, or too many
		words := strings.Split(textOf(k.event), " ")
		for i := range words {
			for _, l := range [][]string{slices.Delete(slices.Clone(words), i, i+1), slices.Insert(slices.Clone(words), i, words[i]), slices.Insert(slices.Clone(words), i, ""), slices.Insert(slices.Clone(words), i, "0")} {
				s := strings.Join(l, " ")
				same(t, answerOf(passport.Parse(s)), wantParsed(s), "Parse", s)
			}
		}
		for _, s := range []string{textOf(k.event) + " ", " " + textOf(k.event), textOf(k.event) + "\n", textOf(k.event) + " a", textOf(k.event) + " 0"} {
			same(t, answerOf(passport.Parse(s)), bad[api.Event](api.ErrForm), "Parse", s)
		}
	}
}

// P7.3, P7.14: numbers and names of texts, one of which is changed.
func TestWordsOfTexts(t *testing.T) {
	others := slices.Concat(goodNames(), wildNames(), goodModules(), wildModules())
	for _, n := range append(wildNumbers(), 0, 1, 2, 12, 13, 31, 32, 33, mostCapacity-1, mostCapacity, mostCapacity+1, mostTime-1, mostTime, mostTime+1) {
		text := strconv.FormatInt(n, 10)
		others = append(others, text, "0"+text, "+"+text, "-"+text, text+"0", "00"+text)
	}
	for _, k := range kinds() {
		words := strings.Split(textOf(k.event), " ")
		for i := range words {
			for _, word := range append(others, "made", "use", "test", "fault", "put", "take", "recall", "clear", "scrap") {
				l := slices.Clone(words)
				l[i] = word
				s := strings.Join(l, " ")
				same(t, answerOf(passport.Parse(s)), wantParsed(s), "Parse", s[:min(len(s), 100)])
			}
		}
	}
}

// P7.3, P7.14: texts of which a character is changed, left out, or put in.
func TestCharactersOfTexts(t *testing.T) {
	r := chance(5)
	valid := 0
	for range 20000 {
		s := []byte(textOf(drawEvent(r)))
		for range 1 + r.Intn(2) {
			i := r.Intn(len(s))
			switch c := "0123456789 :abdeklmrstz-+A\x00\xff"[r.Intn(28)]; r.Intn(3) {
			case 0:
				s[i] = c
			case 1:
				s = slices.Insert(s, i, c)
			default:
				s = slices.Delete(s, i, i+1)
			}
		}
		want := wantParsed(string(s))
		same(t, answerOf(passport.Parse(string(s))), want, "Parse", string(s))
		if want.e == api.OK {
			valid++
			same(t, answerOf(passport.Text(want.x)), good(string(s)), "Text", want.x)
		}
	}
	if valid < 2000 {
		t.Errorf("just %d texts were valid", valid)
	}
}

// P7.14: different events have different bytes, and different texts.
func TestEventsDiffer(t *testing.T) {
	r := chance(6)
	texts, bytes := map[string]api.Event{}, map[string]api.Event{}
	for _, e := range append(variants(true), put(0, "a:0", "0b"), put(0, "a:00", "b"), take(0, "a:0", "0b"), made(0, 1, 1, "11"), made(0, 1, 11, "1"), made(1, 1, 1, "1"), used(1, 11, 1), used(1, 1, 11), used(11, 1, 1)) {
		for i := range 4 {
			x := e
			if i > 0 {
				x = drawEvent(r)
			}
			if !isValid(x) {
				continue
			}
			text, _ := passport.Text(x)
			l, _ := passport.Bytes(x)
			if was, has := texts[text]; has && was != x {
				t.Errorf("%v and %v have the same text", was, x)
			}
			if was, has := bytes[string(l)]; has && was != x {
				t.Errorf("%v and %v have the same bytes", was, x)
			}
			texts[text], bytes[string(l)] = x, x
		}
	}
}
