package update_test

import (
	"math"
	"slices"
	"strconv"
	"strings"
	"testing"

	"coulomb/api"
	"coulomb/update"
)

// checkErrorsOfALog checks that all functions of a log return an error.
func checkErrorsOfALog(t *testing.T, f *update.Flash, first, pages int, want api.Errno) {
	t.Helper()
	l, e := update.Lines(f, first, pages)
	sameList(t, l, nil, "Lines", first, pages)
	done, e2 := update.AppendStep(f, first, pages, 5)
	same(t, done, false, "AppendStep", first, pages)
	same(t, errs(e, e2, update.Append(f, first, pages, 5)), errs(want, want, want), "Lines, AppendStep, Append", first, pages)
}

// P10.4, P10.5, R1: the errors of a log.
func TestErrorsOfLogs(t *testing.T) {
	for _, down := range []bool{false, true} {
		for _, n := range []int{1, 2, 5, 16, 17, 20} {
			x := newFlashes(t, n)
			if down {
				x.cut(0, nil)
				x.erase(0)
			}
			for _, pages := range append(wildInts(), 0, 1, mostLogPages+1, n+1) {
				for _, first := range []int{0, 1, n - 1, -1, math.MaxInt, math.MinInt} {
					checkErrorsOfALog(t, x.f, first, pages, api.ErrRange)
				}
			}
			for pages := 2; pages <= mostLogPages; pages++ {
				for _, first := range append(wildInts(), n-pages+1, n, n+1) {
					checkErrorsOfALog(t, x.f, first, pages, api.ErrRange)
				}
				for first := 0; first <= n-pages && down; first++ {
					checkErrorsOfALog(t, x.f, first, pages, api.ErrDown)
				}
			}
			x.check()
		}
	}
}

// P10.4, P10.5: logs may be on any pages.
func TestPlacesOfLogs(t *testing.T) {
	for n := 2; n <= 18; n++ {
		for pages := 2; pages <= min(n, mostLogPages); pages++ {
			for first := 0; first <= n-pages; first++ {
				x := newFlashes(t, n)
				x.checkLines(first, pages)
				for i := range uint32(8*pages + 1) {
					if e := update.Append(x.f, first, pages, i); e != api.OK {
						t.Fatalf("Append of %d: %d", i, e)
					}
				}
				l, e := update.Lines(x.f, first, pages)
				same(t, len(l), 8*(pages-1)+1, "how many lines there are", e)
				for p := range n { // nothing is written beyond the log
					if p < first || p >= first+pages {
						sameList(t, rawOf(t, x.f, p), filled(pageBytes, 255), "a page that is not of the log", p)
					}
				}
			}
		}
	}
}

// P10.4: how lines are held.
func TestHowLinesAreHeld(t *testing.T) {
	x := newFlashes(t, 2)
	program(t, x.f, 1, 3, []byte{1, 2, 3, 4, 250, 251, 252, 253})
	l, e := update.Lines(x.f, 0, 2)
	sameList(t, l, []api.Line{{Number: 0x01020304, Value: 0xfafbfcfd}}, "Lines", e)
	same(t, update.Append(x.f, 0, 2, 0x90807060), api.OK, "Append")
	b, _, e := x.f.Read(1, 4)
	sameList(t, b, []byte{1, 2, 3, 5, 0x90, 0x80, 0x70, 0x60}, "Read of a line", e)
}

// P10.4: which lines there are.
func TestLines(t *testing.T) {
	for _, x := range []struct {
		pages []string
		want  string
	}{
		{[]string{"", ""}, ""},
		{[]string{"x x x", "x"}, ""},
		{[]string{"0:5", "0:6 0:7"}, ""},
		{[]string{"0:5 1:6", ""}, "1:6"},
		{[]string{"1:7 2:9", ""}, "1:7 2:9"},
		{[]string{"2:9 1:7", ""}, "1:7 2:9"},
		{[]string{"", "1:7 2:9"}, "1:7 2:9"},
		{[]string{"3:1 4:2", "1:3 2:4"}, "1:3 2:4 3:1 4:2"},
		{[]string{"3:1 4:2", "1:3 - 5:4"}, "3:1 4:2 5:4"},
		{[]string{"1:1 x 2:2 - 3:3", "x - 4:4"}, "1:1 2:2 3:3 4:4"},
		{[]string{"1:1 2:2 4:4 5:5", ""}, "4:4 5:5"},
		{[]string{"1:1 2:2 3:3 9:9", ""}, "9:9"},
		{[]string{"9:9", "8:8 6:6"}, "8:8 9:9"},
		{[]string{"5:1 5:2 4:3 4:4", "5:5 4:6 3:7"}, "3:7 4:3 5:1"},
		{[]string{"4:6 3:7", "5:1 5:2 4:3 4:4"}, "3:7 4:6 5:1"},
		{[]string{"- - - 5:2", "5:3"}, "5:2"},
		{[]string{"0:3 1:0 2:0", "1:7 2:8"}, "1:0 2:0"},
		{[]string{"4294967295:1 4294967294:2 4294967292:3", "0:5 1:6"}, "4294967294:2 4294967295:1"},
		{[]string{"4294967295:4294967295", "4294967294:0"}, "4294967294:0 4294967295:4294967295"},
		{[]string{"", "", "1:1", "2:2", "3:3"}, "1:1 2:2 3:3"},
	} {
		f := newFlash(t, len(x.pages)+2)
		program(t, f, 0, 0, number([2]uint64{7000000, 4}, [2]uint64{1, 4})) // in front of the log, and behind it
		program(t, f, len(x.pages)+1, 0, number([2]uint64{7000000, 4}, [2]uint64{1, 4}))
		put(t, f, 1, x.pages...)
		l, e := update.Lines(f, 1, len(x.pages))
		sameList(t, l, linesOf(x.want), "Lines of", x.pages)
		same(t, e, api.OK, "Lines of", x.pages)
	}
}

// pagesOf are the pages of a log, as put writes them.
func pagesOf(m *flashModel, first, pages int) string {
	var l []string
	for p := first; p < first+pages; p++ {
		text := ""
		for r := range 8 {
			switch b, what := m.read(p, r); what {
			case api.RecordBlank:
				text += " -"
			case api.RecordTorn:
				text += " x"
			default:
				text += " " + strconv.FormatUint(valueOf(b[:4]), 10) + ":" + strconv.FormatUint(valueOf(b[4:]), 10)
			}
		}
		l = append(l, strings.TrimRight(text, " -"))
	}
	return strings.Join(l, " |")
}

// P10.5: where a value is appended, or which page is erased.
func TestAppendStep(t *testing.T) {
	full := "1:1 2:2 3:3 4:4 5:5 6:6 7:7 8:8"
	second := "9:1 10:1 11:1 12:1 13:1 14:1 15:1 16:1"
	for _, x := range []struct {
		pages    []string
		appended bool
		want     string
	}{
		{[]string{"", ""}, true, " 1:77 |"},
		{[]string{"x", ""}, true, " x 1:77 |"},
		{[]string{"x - x", ""}, true, " x 1:77 x |"},
		{[]string{"0:1 0:2", ""}, true, " 0:1 0:2 1:77 |"},
		{[]string{"x x x x x x x x", ""}, false, " |"}, // without a line the first page is meant
		{[]string{"x x x x x x x x", "x"}, false, " | x"},
		{[]string{"0:1 x x 0:3 x x x x", "", ""}, false, " | |"},
		{[]string{"", "x"}, true, " 1:77 | x"},
		{[]string{"1:1", ""}, true, " 1:1 2:77 |"},
		{[]string{"- - 1:1", ""}, true, " - - 1:1 2:77 |"},
		{[]string{"2:1 1:1 x", ""}, true, " 2:1 1:1 x 3:77 |"},
		{[]string{"1:1 2:2 x x - x -", ""}, true, " 1:1 2:2 x x 3:77 x |"},
		{[]string{full, ""}, true, " " + full + " | 9:77"},
		{[]string{full, "x"}, false, " " + full + " |"},
		{[]string{full, "- - - - - - - x"}, false, " " + full + " |"},
		{[]string{full, "- - 0:5"}, false, " " + full + " |"},
		{[]string{full, second}, false, " | " + second},
		{[]string{"", second}, true, " 17:77 | " + second},
		{[]string{"x", second}, false, " | " + second},
		{[]string{second, full}, false, " " + second + " |"},
		{[]string{full, second, ""}, true, " " + full + " | " + second + " | 17:77"},
		{[]string{full, second, "x"}, false, " " + full + " | " + second + " |"},
		{[]string{full, "", second}, false, " | | " + second},
		{[]string{"x x x x x x x 1:5", ""}, true, " x x x x x x x 1:5 | 2:77"},
		{[]string{"x x x x x x x 1:5", "x"}, false, " x x x x x x x 1:5 |"},
		{[]string{"x x x x x x x 5:5", "4:4"}, false, " x x x x x x x 5:5 |"},
		{[]string{"x x x x x x x 5:5", "", "4:4"}, true, " x x x x x x x 5:5 | 6:77 | 4:4"},
		{[]string{"- - - - - - - 5:5", "", "4:4"}, true, " - - - - - - - 5:5 | 6:77 | 4:4"},
		{[]string{"5:1", "5:2", "5:3"}, true, " 5:1 6:77 | 5:2 | 5:3"}, // the first of several
		{[]string{"- - - - - - - 5:1", "5:2", "5:3"}, false, " - - - - - - - 5:1 | | 5:3"},
		{[]string{"5:1 5:2", "4:4"}, true, " 5:1 5:2 6:77 | 4:4"},
		{[]string{"4294967294:1", ""}, true, " 4294967294:1 4294967295:77 |"},
	} {
		for _, first := range []int{0, 2} {
			y := newFlashes(t, len(x.pages)+3)
			put(t, y.f, first, x.pages...)
			y.m.raw = allRaw(t, y.f)
			done, e := update.AppendStep(y.f, first, len(x.pages), 77)
			same(t, done, x.appended, "AppendStep", x.pages)
			same(t, e, api.OK, "AppendStep", x.pages)
			y.m.step(first, len(x.pages), 77)
			y.check()
			same(t, pagesOf(y.m, first, len(x.pages)), x.want, "the pages behind a step", x.pages)
		}
	}
}

// P10.5: Append does as many steps as are needed.
func TestAppend(t *testing.T) {
	full := "1:1 2:2 3:3 4:4 5:5 6:6 7:7 8:8"
	for _, x := range []struct {
		pages []string
		want  string
	}{
		{[]string{"", ""}, " 1:77 |"},
		{[]string{"1:1", "x"}, " 1:1 2:77 | x"},
		{[]string{"x x x x x x x x", "x"}, " 1:77 | x"},
		{[]string{full, "x"}, " " + full + " | 9:77"},
		{[]string{full, ""}, " " + full + " | 9:77"},
		{[]string{"x", "1:1 2:2 x x x x x x"}, " 3:77 | 1:1 2:2 x x x x x x"},
		{[]string{"- - - - - - - 5:1", "5:2", "5:3"}, " - - - - - - - 5:1 | 6:77 | 5:3"},
		{[]string{full, "0:0", "0:0"}, " " + full + " | 9:77 | 0:0"},
	} {
		f := newFlash(t, len(x.pages)+1)
		put(t, f, 1, x.pages...)
		same(t, update.Append(f, 1, len(x.pages), 77), api.OK, "Append", x.pages)
		same(t, pagesOf(&flashModel{raw: allRaw(t, f)}, 1, len(x.pages)), x.want, "the pages behind Append", x.pages)
	}
}

// P10.5: no line has a number behind the greatest one.
func TestLogsThatAreOver(t *testing.T) {
	for _, pages := range [][]string{{"4294967295:1", ""}, {"x", "1:1 4294967295:2"}, {"4294967295:1 4294967295:1 4294967294:5 x x x x x", "x"}} {
		x := newFlashes(t, 3)
		put(t, x.f, 0, pages...)
		x.m.raw = allRaw(t, x.f)
		for range 2 {
			done, e := update.AppendStep(x.f, 0, 2, 5)
			same(t, done, false, "AppendStep")
			same(t, errs(e, update.Append(x.f, 0, 2, 5)), errs(api.ErrOver, api.ErrOver), "AppendStep, Append")
			x.check()
			x.checkLines(0, 2)
		}
		checkErrorsOfALog(t, x.f, 0, 17, api.ErrRange)
		x.cut(0, nil)
		x.erase(2)
		checkErrorsOfALog(t, x.f, 0, 2, api.ErrDown)
	}
	f := newFlash(t, 2)
	put(t, f, 0, "4294967294:1", "")
	same(t, errs(update.Append(f, 0, 2, 5), update.Append(f, 0, 2, 6)), errs(api.OK, api.ErrOver), "Append")
}

// P10.5: steps that are cut.
func TestAppendThatIsCut(t *testing.T) {
	r := chance(5)
	for range 40 {
		for _, all := range []bool{false, true} {
			for filledUp := range 34 { // how many values are there
				x := newFlashes(t, 4)
				for i := range filledUp {
					x.append(1, 2, uint32(i), true)
				}
				x.cut(r.Intn(2), drawMask(r))
				for range 2 {
					x.append(1, 2, 1000, all)
				}
				x.checkLines(1, 2)
				x.restart()
				x.checkLines(1, 2)
				x.append(1, 2, 1001, all)
				x.append(1, 2, 1002, all)
				x.checkLines(1, 2)
			}
		}
	}
}

// P10.5: the second step of Append is cut, behind the first one that has erased a page.
func TestAppendThatIsCutBehindAnErasure(t *testing.T) {
	for _, mask := range [][]byte{nil, {255}, filled(16, 255)} {
		x := newFlashes(t, 2)
		for i := range 16 {
			x.append(0, 2, uint32(i), true)
		}
		x.cut(1, mask)
		x.append(0, 2, 16, true)
		same(t, x.f.Down(), true, "Down")
		sameList(t, rawOf(t, x.f, 0)[16:], filled(112, 255), "the page that was erased")
		x.restart()
		x.checkLines(0, 2)
	}
}

// P10.4, P10.5: drawn pages, on which there is anything.
func TestDrawnLogs(t *testing.T) {
	r := chance(4)
	for range 1500 {
		pages := 2 + r.Intn(3)
		first := r.Intn(3)
		x := newFlashes(t, pages+4)
		base := uint32(r.Intn(5))
		if r.Intn(5) == 0 {
			base = math.MaxUint32 - 6
		}
		for p := range pages {
			for i := range 8 {
				switch r.Intn(5) {
				case 0, 1, 2:
					x.program(first+p, i, number([2]uint64{uint64(base) + uint64(r.Intn(7)), 4}, [2]uint64{uint64(r.Intn(9)), 4}))
				case 3:
					x.cut(0, drawBytes(r, 16))
					x.program(first+p, i, drawBytes(r, 8))
					x.restart()
				}
			}
		}
		x.checkLines(first, pages)
		for i := range 12 {
			if newest, _, _ := x.m.newest(first, pages); newest.Number == math.MaxUint32 {
				break
			}
			if r.Intn(6) == 0 {
				x.cut(r.Intn(2), drawMask(r))
			}
			x.append(first, pages, uint32(i), r.Intn(2) == 0)
			x.checkLines(first, pages)
			x.restart()
			x.checkLines(first, pages)
		}
	}
}

// P10.16: if Append is cut, the lines are consecutive, and end with the newest one before, or with the new one; and all are there but those of the page that was to be erased.
func TestLogsSurviveCuts(t *testing.T) {
	r := chance(16)
	ends := [2]int{}
	for range 150 {
		pages := 2 + r.Intn(3)
		f := newFlash(t, pages+1)
		given := map[uint32]uint32{} // the values, by the numbers of their lines
		value := uint32(0)
		for range 60 {
			before, _ := update.Lines(f, 1, pages)
			cut := r.Intn(3) == 0
			page := pagesOfLines(t, f, 1, pages)
			if cut {
				same(t, f.Cut(r.Intn(2), drawMask(r)), api.OK, "Cut")
			}
			value++
			e := update.Append(f, 1, pages, value)
			wasCut := f.Down()
			same(t, e, errnoOf(!wasCut), "Append")
			if wasCut {
				same(t, f.Restart(), api.OK, "Restart")
			}
			behind, e := update.Lines(f, 1, pages)
			same(t, e, api.OK, "Lines")
			checkConsecutive(t, behind)
			newest := newestOf(before)
			switch last := newestOf(behind); {
			case last == newest && wasCut:
				ends[0]++
			case last.Number == newest.Number+1 && last.Value == value:
				ends[1]++
				given[last.Number] = value
			default:
				t.Fatalf("the lines end with %v; before with %v; the value is %d, cut: %v", last, newest, value, wasCut)
			}
			for _, x := range behind {
				if given[x.Number] != x.Value {
					t.Fatalf("the line %v had the value %d", x, given[x.Number])
				}
			}
			for _, x := range before {
				if !slices.Contains(behind, x) && page[x.Number] != page[newest.Number]%pages+1 {
					t.Fatalf("the line %v of the page %d is lost; the newest one was in the page %d", x, page[x.Number], page[newest.Number])
				}
			}
			if cut && !wasCut {
				same(t, f.Cut(0, nil), api.OK, "Cut")
				same(t, f.Erase(0), api.ErrDown, "Erase of a page that is not of the log")
				same(t, f.Restart(), api.OK, "Restart")
			}
		}
	}
	if slices.Min(ends[:]) < 100 {
		t.Errorf("how often the lines end with the newest one before, and with the new one: %v", ends)
	}
}

// pagesOfLines are the pages where good records are, by the numbers of the lines that they hold.
func pagesOfLines(t *testing.T, f *update.Flash, first, pages int) map[uint32]int {
	t.Helper()
	l := map[uint32]int{}
	for p := first; p < first+pages; p++ {
		for r := range 8 {
			b, what, e := f.Read(p, r)
			same(t, e, api.OK, "Read")
			if what == api.RecordGood {
				l[uint32(valueOf(b[:4]))] = p
			}
		}
	}
	return l
}

// newestOf is the last one of some lines.
func newestOf(l []api.Line) api.Line {
	if len(l) == 0 {
		return api.Line{}
	}
	return l[len(l)-1]
}

// checkConsecutive checks that the numbers of lines follow each other.
func checkConsecutive(t *testing.T, l []api.Line) {
	t.Helper()
	for i, x := range l {
		if x.Number != l[0].Number+uint32(i) {
			t.Fatalf("the lines are not consecutive: %v", l)
		}
	}
}

// P10.16: which lines a cut takes away, exactly: those of the page that was to be erased, and no other ones.
func TestLinesThatACutTakesAway(t *testing.T) {
	r := chance(17)
	for pages := 2; pages <= mostLogPages; pages++ {
		f := newFlash(t, pages)
		for i := range uint32(8 * pages) {
			same(t, update.Append(f, 0, pages, 100+i), api.OK, "Append")
		}
		for range 50 {
			c := f.Copy()
			mask := drawMask(r)
			same(t, c.Cut(0, mask), api.OK, "Cut")
			same(t, update.Append(c, 0, pages, 5), api.ErrDown, "Append")
			c.Restart()
			l, _ := update.Lines(c, 0, pages)
			checkConsecutive(t, l)
			if len(l) < 8*(pages-1) || newestOf(l) != (api.Line{Number: uint32(8 * pages), Value: uint32(99 + 8*pages)}) {
				t.Fatalf("the lines behind a cut: %v", l)
			}
			same(t, update.Append(c, 0, pages, 5), api.OK, "Append")
			l, _ = update.Lines(c, 0, pages)
			same(t, newestOf(l), api.Line{Number: uint32(8*pages + 1), Value: 5}, "the line that was appended")
			checkConsecutive(t, l)
		}
	}
}

// P10.16: how many lines a log has into which m values were appended without a cut.
func TestHowManyLinesThereAre(t *testing.T) {
	for pages := 2; pages <= mostLogPages; pages++ {
		f := newFlash(t, pages)
		for m := 1; m <= 300; m++ {
			same(t, update.Append(f, 0, pages, uint32(3*m)), api.OK, "Append")
			l, e := update.Lines(f, 0, pages)
			same(t, newestOf(l), api.Line{Number: uint32(m), Value: uint32(3 * m)}, "the newest line", e)
			checkConsecutive(t, l)
			for _, x := range l {
				same(t, x.Value, 3*x.Number, "the value of a line")
			}
			if m <= 8*(pages-1)+1 && len(l) != m || len(l) < min(m, 8*(pages-1)+1) || len(l) > min(m, 8*pages) {
				t.Fatalf("a log of %d pages with %d values has %d lines", pages, m, len(l))
			}
		}
	}
}
