package protect

import (
	"strconv"
	"strings"

	"coulomb/api"
)

// The word with which the text of a guard begins, and what stands between the words.
const (
	firstWord    = "guard"
	betweenWords = " "
)

// Where the numbers of a guard are in its text; those of other names are before the spreads, and behind the debounces.
const (
	firstSpread   = 6
	firstDebounce = firstSpread + 5
	firstBehind   = firstDebounce + 7
	guardNumbers  = firstBehind + 4
)

// Check reports whether a guard is valid. (P5.1)
func Check(g api.Guard) api.Errno {
	if !allFrom(0, api.MaxQuantity, g.MostVolt, g.LeastVolt, g.Out, g.In, g.Hot, g.LeastIso, g.Leak) ||
		!allFrom(0, api.MaxQuantity, g.Spread[:]...) ||
		!allFrom(1, api.MaxDebounce, g.Debounce[:]...) ||
		!allFrom(1, api.Whole, g.PrePart) ||
		!allFrom(1, api.MaxDebounce, g.PreTicks, g.OpenTicks) {
		return api.ErrArg
	}
	return api.OK
}

// Text returns the text of a guard. (P5.1)
func Text(g api.Guard) (string, api.Errno) {
	if e := Check(g); e != api.OK {
		return "", e
	}
	words := []string{firstWord}
	for _, n := range numbersOf(g) {
		words = append(words, strconv.FormatInt(n, 10))
	}
	return strings.Join(words, betweenWords), api.OK
}

// Parse reads a guard. (P5.1)
func Parse(s string) (api.Guard, api.Errno) {
	words := strings.SplitN(s, betweenWords, guardNumbers+2) // one word too many shows that there are too many
	if len(words) != guardNumbers+1 {
		return api.Guard{}, api.ErrForm
	}
	var numbers [guardNumbers]int64
	for i := range guardNumbers {
		numbers[i], _ = strconv.ParseInt(words[i+1], 10, 64)
	}
	g := guardOf(numbers)
	if text, e := Text(g); e != api.OK || text != s { // numbers can also be read that are not written so
		return api.Guard{}, api.ErrForm
	}
	return g, api.OK
}

// Reaction returns the stated reaction time. (P5.3)
func Reaction(g api.Guard, cause, lag int) (int, api.Errno) {
	if e := Check(g); e != api.OK {
		return 0, e
	}
	if !allFrom(api.CauseOver, api.CauseIso, cause) || !isLag(lag) {
		return 0, api.ErrRange
	}
	return g.Debounce[cause-1] + lag, api.OK
}

// numbersOf returns the numbers of a guard, in the order of its text.
func numbersOf(g api.Guard) []int64 {
	l := []int64{g.MostVolt, g.LeastVolt, g.Out, g.In, g.Hot, g.LeastIso}
	l = append(l, g.Spread[:]...)
	for _, ticks := range g.Debounce {
		l = append(l, int64(ticks))
	}
	return append(l, g.PrePart, int64(g.PreTicks), int64(g.OpenTicks), g.Leak)
}

// guardOf returns the guard with some numbers.
func guardOf(n [guardNumbers]int64) api.Guard {
	g := api.Guard{MostVolt: n[0], LeastVolt: n[1], Out: n[2], In: n[3], Hot: n[4], LeastIso: n[5]}
	copy(g.Spread[:], n[firstSpread:])
	for i := range len(g.Debounce) {
		g.Debounce[i] = int(n[firstDebounce+i])
	}
	behind := n[firstBehind:]
	g.PrePart, g.PreTicks, g.OpenTicks, g.Leak = behind[0], int(behind[1]), int(behind[2]), behind[3]
	return g
}
