package protect_test

import (
	"math"
	"strconv"
	"strings"
	"testing"

	"coulomb/api"
	"coulomb/protect"
)

// field is a number of a guard, and from where to where it is valid.
type field struct {
	name     string
	least    int64
	greatest int64
	set      func(g *api.Guard, x int64)
	get      func(g api.Guard) int64
}

// fields are all numbers of a guard, in the order of its text.
func fields() []field {
	amount := func(name string, at func(g *api.Guard) *int64) field {
		return field{name, 0, most, func(g *api.Guard, x int64) { *at(g) = x }, func(g api.Guard) int64 { return *at(&g) }}
	}
	ticks := func(name string, at func(g *api.Guard) *int) field {
		return field{name, 1, 100, func(g *api.Guard, x int64) { *at(g) = int(x) }, func(g api.Guard) int64 { return int64(*at(&g)) }}
	}
	l := []field{
		amount("MostVolt", func(g *api.Guard) *int64 { return &g.MostVolt }),
		amount("LeastVolt", func(g *api.Guard) *int64 { return &g.LeastVolt }),
		amount("Out", func(g *api.Guard) *int64 { return &g.Out }),
		amount("In", func(g *api.Guard) *int64 { return &g.In }),
		amount("Hot", func(g *api.Guard) *int64 { return &g.Hot }),
		amount("LeastIso", func(g *api.Guard) *int64 { return &g.LeastIso }),
	}
	for i := range 5 {
		l = append(l, amount("Spread "+strconv.Itoa(i), func(g *api.Guard) *int64 { return &g.Spread[i] }))
	}
	for i := range 7 {
		l = append(l, ticks("Debounce "+strconv.Itoa(i), func(g *api.Guard) *int { return &g.Debounce[i] }))
	}
	part := amount("PrePart", func(g *api.Guard) *int64 { return &g.PrePart })
	part.least, part.greatest = 1, 65536
	return append(l, part,
		ticks("PreTicks", func(g *api.Guard) *int { return &g.PreTicks }),
		ticks("OpenTicks", func(g *api.Guard) *int { return &g.OpenTicks }),
		amount("Leak", func(g *api.Guard) *int64 { return &g.Leak }))
}

// put is the guard of the examples with another number in a field.
func put(f field, x int64) api.Guard { return guard(func(g *api.Guard) { f.set(g, x) }) }

// wildGuards are not valid, each in one field.
func wildGuards() []api.Guard {
	l := []api.Guard{{}}
	for _, f := range fields() {
		for _, x := range []int64{f.least - 1, f.greatest + 1, -1, -1 << 40, math.MinInt64, math.MaxInt64} {
			l = append(l, put(f, x))
		}
	}
	return l
}

// validGuards are valid, with a field at a bound, or within.
func validGuards() []api.Guard {
	l := []api.Guard{guard(), extreme(false), extreme(true)}
	for _, f := range fields() {
		for _, x := range []int64{f.least, f.least + 1, f.greatest - 1, f.greatest} {
			l = append(l, put(f, x))
		}
	}
	return l
}

// extreme is the guard with all numbers at a bound.
func extreme(greatest bool) api.Guard {
	var g api.Guard
	for _, f := range fields() {
		if greatest {
			f.set(&g, f.greatest)
		} else {
			f.set(&g, f.least)
		}
	}
	return g
}

// P5.1
func TestCheck(t *testing.T) {
	for _, g := range validGuards() {
		if e := protect.Check(g); e != api.OK {
			t.Errorf("Check of %v: %d", g, e)
		}
	}
	for _, g := range wildGuards() {
		if e := protect.Check(g); e != api.ErrArg {
			t.Errorf("Check of %v: %d", g, e)
		}
	}
}

// textOf is the text of a guard, by its fields.
func textOf(g api.Guard) string {
	text := "guard"
	for _, f := range fields() {
		text += " " + strconv.FormatInt(f.get(g), 10)
	}
	return text
}

// P5.1
func TestText(t *testing.T) {
	numbered := guard() // all numbers are different
	for i, f := range fields() {
		f.set(&numbered, int64(i+1))
	}
	for _, x := range []struct {
		g    api.Guard
		want string
	}{
		{guard(), "guard 4200000 2800000 100000 50000 330000 100000 20000 20000 1000 2000 10000 3 3 3 3 3 3 3 58982 5 4 2000"},
		{numbered, "guard 1 2 3 4 5 6 7 8 9 10 11 12 13 14 15 16 17 18 19 20 21 22"},
		{extreme(false), "guard 0 0 0 0 0 0 0 0 0 0 0 1 1 1 1 1 1 1 1 1 1 0"},
		{extreme(true), "guard" + strings.Repeat(" 1099511627776", 11) + strings.Repeat(" 100", 7) + " 65536 100 100 1099511627776"},
	} {
		checkText(t, x.g, x.want)
	}
	for _, g := range validGuards() {
		checkText(t, g, textOf(g))
	}
	for _, g := range wildGuards() {
		if s, e := protect.Text(g); s != "" || e != api.ErrArg {
			t.Errorf("Text of %v: %q, %d", g, s, e)
		}
	}
}

// checkText checks that the text of a guard is written, and read.
func checkText(t *testing.T, g api.Guard, want string) {
	t.Helper()
	if s, e := protect.Text(g); s != want || e != api.OK {
		t.Errorf("Text of %v: %q, %d", g, s, e)
	}
	if got, e := protect.Parse(want); got != g || e != api.OK {
		t.Errorf("Parse of %q: %v, %d", want, got, e)
	}
}

// checkForm checks that a text is none of a guard.
func checkForm(t *testing.T, s string) {
	t.Helper()
	if g, e := protect.Parse(s); g != (api.Guard{}) || e != api.ErrForm {
		t.Errorf("Parse of %.200q: %v, %d", s, g, e)
	}
}

// P5.1: texts with a word that is wrong, one place after the other.
func TestParseOfWrongWords(t *testing.T) {
	words := strings.Split(textOf(guard()), " ")
	with := func(i int, word string) string {
		l := append([]string{}, words...)
		l[i] = word
		return strings.Join(l, " ")
	}
	wrong := []string{
		"", "-", "+", "-1", "-0", "+1", "+3", "00", "01", "03", "007", "1.0", "1.", ".5", "1e1", "0x1", "0b1", "0o3", "1_0", "1,0", "3x", "x3", "three", "guard", "nil",
		"3\n", "\n3", "\t3", "3\t", "3\x00", "\u0663", "\uff13", "3\xff", "(3)", "\"3\"", "1 1", "3  3", " 3", "3 ",
		"1099511627777", "9223372036854775807", "9223372036854775808", "18446744073709551617", "18446744073709551619", "4294967299", "-9223372036854775808",
		"340282366920938463463374607431768211459", strings.Repeat("0", 100) + "3", strings.Repeat("3", 70000),
	}
	for i := range words {
		for _, w := range wrong {
			if i == 0 && w == "guard" || w == "4294967299" && i > 0 && fields()[i-1].greatest == most {
				continue
			}
			checkForm(t, with(i, w))
		}
	}
	for i, f := range fields() {
		for _, x := range []int64{f.least, f.greatest} {
			if g, e := protect.Parse(with(i+1, strconv.FormatInt(x, 10))); g != put(f, x) || e != api.OK {
				t.Errorf("Parse with %d as %s: %v, %d", x, f.name, g, e)
			}
		}
		for _, x := range []int64{f.least - 1, f.greatest + 1} {
			checkForm(t, with(i+1, strconv.FormatInt(x, 10)))
		}
	}
	for _, w := range []string{"Guard", "GUARD", "guards", "guar", "guardd", "guard:", "g", "\ufeffguard"} {
		checkForm(t, with(0, w))
	}
}

// P5.1, R8: texts of the wrong shape.
func TestParseForm(t *testing.T) {
	text := textOf(guard())
	words := strings.Split(text, " ")
	for i := range words {
		checkForm(t, strings.Join(append(append([]string{}, words[:i]...), words[i+1:]...), " ")) // a word is missing
		checkForm(t, strings.Join(append(append(append([]string{}, words[:i]...), "7"), words[i:]...), " "))
		checkForm(t, strings.Join(words[:i], " "))
		if i > 0 {
			for _, between := range []string{"  ", "", "\t", "\n", ",", ", ", "\u00a0", "-", " -", " +", " 0", "\r\n"} {
				checkForm(t, strings.Join(words[:i], " ")+between+strings.Join(words[i:], " "))
			}
		}
	}
	for _, s := range []string{
		"", " ", "guard", "guard ", "guard 1", text + " ", " " + text, text + "\n", "\n" + text, text + " 1", text + " 0", text + "x", text + "\x00", text + "0000000000", text + " " + text, text + "\n" + text,
		strings.ToUpper(text), strings.Repeat(" ", 70000), strings.Repeat("guard ", 70000), text + strings.Repeat(" 1", 70000), text + strings.Repeat(" ", 70000),
	} {
		checkForm(t, s)
	}
	for i := range strings.LastIndex(text, " ") + 2 { // up to where the last number begins
		checkForm(t, text[:i])
	}
}

// P5.3
func TestReaction(t *testing.T) {
	g := guard(debounced(11, 12, 13, 14, 15, 16, 97))
	for _, lag := range []int{0, 1, 2, 19, 20} {
		for cause := 1; cause <= 6; cause++ {
			if n, e := protect.Reaction(g, cause, lag); n != 10+cause+lag || e != api.OK {
				t.Errorf("Reaction of the cause %d, lag %d: %d, %d", cause, lag, n, e)
			}
		}
	}
	if n, e := protect.Reaction(guard(), api.CauseHot, 2); n != 5 || e != api.OK {
		t.Errorf("Reaction of the example: %d, %d", n, e)
	}
	if n, e := protect.Reaction(guard(debounced(100)), api.CauseIso, 20); n != 120 || e != api.OK {
		t.Errorf("the longest Reaction: %d, %d", n, e)
	}
	for _, x := range []struct{ cause, lag int }{
		{0, 2}, {7, 2}, {8, 2}, {12, 0}, {-1, 2}, {math.MinInt, 2}, {math.MaxInt, 2},
		{1, -1}, {6, 21}, {3, math.MinInt}, {3, math.MaxInt}, {0, -1}, {7, 21},
	} {
		if n, e := protect.Reaction(g, x.cause, x.lag); n != 0 || e != api.ErrRange {
			t.Errorf("Reaction of the cause %d, lag %d: %d, %d", x.cause, x.lag, n, e)
		}
	}
	for _, w := range wildGuards() {
		for _, x := range []struct{ cause, lag int }{{1, 0}, {0, 0}, {7, 21}} {
			if n, e := protect.Reaction(w, x.cause, x.lag); n != 0 || e != api.ErrArg {
				t.Errorf("Reaction of %v: %d, %d", w, n, e)
			}
		}
	}
}
