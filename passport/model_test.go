package passport_test

import (
	"encoding/binary"
	"fmt"
	"math/big"
	"regexp"
	"slices"
	"strings"

	"coulomb/api"
)

// wantField returns the prime of a field, and how many bytes a word has.
func wantField(field int) (prime, bytes int64, ok bool) {
	switch field {
	case 0:
		return 257, 1, true
	case 1:
		return 65537, 2, true
	case 2:
		return 2147483647, 3, true
	}
	return 0, 0, false
}

// wordsOf are the words of a message.
func wordsOf(field int, msg []byte) []int64 {
	_, bytes, _ := wantField(field)
	rest := append(slices.Clone(msg), 1)
	for len(rest)%int(bytes) != 0 {
		rest = append(rest, 0)
	}
	words := []int64{1}
	for ; len(rest) > 0; rest = rest[bytes:] {
		word := int64(0)
		for _, b := range rest[:bytes] {
			word = 256*word + int64(b)
		}
		words = append(words, word)
	}
	return words
}

// digestOf is the digest of a message.
func digestOf(field int, point uint64, msg []byte) uint64 {
	p, _, _ := wantField(field)
	words := wordsOf(field, msg)
	prime, x, power, sum := big.NewInt(p), new(big.Int).SetUint64(point), big.NewInt(1), new(big.Int)
	for i := len(words) - 1; i >= 0; i-- {
		power.Mul(power, x).Mod(power, prime)
		sum.Add(sum, new(big.Int).Mul(big.NewInt(words[i]), power))
	}
	return sum.Mod(sum, prime).Uint64()
}

// tagOf is the tag of a message.
func tagOf(field int, point, pad uint64, msg []byte) uint64 {
	p, _, _ := wantField(field)
	return (digestOf(field, point, msg) + pad) % uint64(p)
}

// The names and the modules.
var (
	namePattern   = regexp.MustCompile(`\A[a-z0-9]{1,20}\z`)
	modulePattern = regexp.MustCompile(`\A[a-z0-9]{1,20}:(?:[0-9]|[12][0-9]|3[01])\z`)
)

func isName(s string) bool   { return namePattern.MatchString(s) }
func isModule(s string) bool { return modulePattern.MatchString(s) }
func isTime(at int64) bool   { return 0 <= at && at <= mostTime }

// isValid reports whether an event is valid.
func isValid(e api.Event) bool {
	least := api.Event{Kind: e.Kind, At: e.At} // what is not mentioned is 0 or empty
	is := true
	switch e.Kind {
	case api.EventMade:
		is = 1 <= e.A && e.A <= mostCapacity && 0 <= e.B && e.B <= mostModules && isName(e.Name)
		least.A, least.B, least.Name = e.A, e.B, e.Name
	case api.EventUse:
		is = 0 <= e.A && e.A <= quantities && 0 <= e.B && e.B <= quantities
		least.A, least.B = e.A, e.B
	case api.EventTest:
		is = 0 <= e.A && e.A <= mostCapacity
		least.A = e.A
	case api.EventFault:
		is = 1 <= e.A && e.A <= 12
		least.A = e.A
	case api.EventPut, api.EventTake:
		is = isModule(e.Name) && isName(e.Other)
		least.Name, least.Other = e.Name, e.Other
	case api.EventRecall, api.EventClear:
		is = isName(e.Name)
		least.Name = e.Name
	case api.EventScrap:
	default:
		return false
	}
	return is && isTime(e.At) && e == least
}

// textOf is the text of a valid event.
func textOf(e api.Event) string {
	switch e.Kind {
	case api.EventMade:
		return fmt.Sprintf("made %d %d %d %s", e.At, e.A, e.B, e.Name)
	case api.EventUse:
		return fmt.Sprintf("use %d %d %d", e.At, e.A, e.B)
	case api.EventTest:
		return fmt.Sprintf("test %d %d", e.At, e.A)
	case api.EventFault:
		return fmt.Sprintf("fault %d %d", e.At, e.A)
	case api.EventPut:
		return fmt.Sprintf("put %d %s %s", e.At, e.Name, e.Other)
	case api.EventTake:
		return fmt.Sprintf("take %d %s %s", e.At, e.Name, e.Other)
	case api.EventRecall:
		return fmt.Sprintf("recall %d %s", e.At, e.Name)
	case api.EventClear:
		return fmt.Sprintf("clear %d %s", e.At, e.Name)
	}
	return fmt.Sprintf("scrap %d", e.At)
}

// bytesOf are the bytes of a valid event.
func bytesOf(e api.Event) []byte {
	l := []byte{byte(e.Kind)}
	l = binary.BigEndian.AppendUint64(l, uint64(e.At))
	l = binary.BigEndian.AppendUint64(l, uint64(e.A))
	l = binary.BigEndian.AppendUint64(l, uint64(e.B))
	l = append(append(l, byte(len(e.Name))), e.Name...)
	return append(append(l, byte(len(e.Other))), e.Other...)
}

// The texts, but for the limits of their numbers.
var patterns = map[int]*regexp.Regexp{
	api.EventMade:   textPattern("made N N N W"),
	api.EventUse:    textPattern("use N N N"),
	api.EventTest:   textPattern("test N N"),
	api.EventFault:  textPattern("fault N N"),
	api.EventPut:    textPattern("put N M W"),
	api.EventTake:   textPattern("take N M W"),
	api.EventRecall: textPattern("recall N W"),
	api.EventClear:  textPattern("clear N W"),
	api.EventScrap:  textPattern("scrap N"),
}

// textPattern is the pattern of a text with numbers N, names W and modules M.
func textPattern(s string) *regexp.Regexp {
	s = strings.NewReplacer("N", "(0|[1-9][0-9]{0,17})", "W", "([a-z0-9]+)", "M", "([a-z0-9]+:[0-9]+)").Replace(s)
	return regexp.MustCompile(`\A` + s + `\z`)
}

// wantParsed is what Parse returns.
func wantParsed(s string) answer[api.Event] {
	for kind, p := range patterns {
		groups := p.FindStringSubmatch(s)
		if groups == nil {
			continue
		}
		e := api.Event{Kind: kind}
		fields := map[int][]any{
			api.EventMade: {&e.At, &e.A, &e.B, &e.Name}, api.EventUse: {&e.At, &e.A, &e.B}, api.EventTest: {&e.At, &e.A}, api.EventFault: {&e.At, &e.A},
			api.EventPut: {&e.At, &e.Name, &e.Other}, api.EventTake: {&e.At, &e.Name, &e.Other}, api.EventRecall: {&e.At, &e.Name}, api.EventClear: {&e.At, &e.Name}, api.EventScrap: {&e.At},
		}[kind]
		for i, f := range fields {
			fmt.Sscan(groups[1+i], f)
		}
		if isValid(e) {
			return good(e)
		}
	}
	return bad[api.Event](api.ErrForm)
}

// modulesOf are the modules of a history.
func modulesOf(name string, l []api.Event) []string {
	var modules []string
	for _, e := range l {
		switch e.Kind {
		case api.EventMade:
			for i := range e.B {
				modules = append(modules, fmt.Sprintf("%s:%d", name, i))
			}
		case api.EventPut:
			modules = append(modules, e.Name)
		case api.EventTake:
			i := slices.Index(modules, e.Name)
			modules = slices.Concat(modules[:i], modules[i+1:])
		}
	}
	return modules
}

// isOpen reports whether there is a recall for a reason without a clear behind it.
func isOpen(l []api.Event, reason string) bool {
	for _, e := range slices.Backward(l) {
		if e.Kind == api.EventClear && e.Name == reason {
			return false
		}
		if e.Kind == api.EventRecall && e.Name == reason {
			return true
		}
	}
	return false
}

// ofKind are the events of some kinds.
func ofKind(l []api.Event, kinds ...int) []api.Event {
	return slices.DeleteFunc(slices.Clone(l), func(e api.Event) bool { return !slices.Contains(kinds, e.Kind) })
}

// canFollow reports whether a valid event can follow a legal history.
func canFollow(name string, l []api.Event, e api.Event) bool {
	if len(l) == 0 || e.Kind == api.EventMade {
		return len(l) == 0 && e.Kind == api.EventMade
	}
	modules := modulesOf(name, l)
	switch e.Kind {
	case api.EventPut:
		if slices.Contains(modules, e.Name) || len(modules) >= mostModules || e.Other == name {
			return false
		}
	case api.EventTake:
		if !slices.Contains(modules, e.Name) || e.Other == name {
			return false
		}
	case api.EventRecall, api.EventClear:
		if isOpen(l, e.Name) != (e.Kind == api.EventClear) {
			return false
		}
	case api.EventScrap:
		if len(modules) > 0 {
			return false
		}
	}
	return e.At >= l[len(l)-1].At && len(ofKind(l, api.EventScrap)) == 0
}

// wantLegal is what Legal returns.
func wantLegal(name string, l []api.Event) found {
	if !isName(name) {
		return notFound(api.ErrArg)
	}
	if len(l) > mostEvents {
		return notFound(api.ErrMany)
	}
	for i, e := range l {
		if !isValid(e) || !canFollow(name, l[:i], e) {
			return wrongAt(i)
		}
	}
	return legal(len(l))
}

// wantModules is what Modules returns.
func wantModules(name string, l []api.Event) ([]string, api.Errno) {
	legal := wantLegal(name, l)
	if legal.e != api.OK {
		return nil, legal.e
	}
	if !legal.ok {
		return nil, api.ErrState
	}
	return modulesOf(name, l), api.OK
}

// quotient is a / b, rounded down.
func quotient(a, b *big.Int) int64 { return new(big.Int).Div(a, b).Int64() }

// sumOf is the sum of something over events of a kind.
func sumOf(l []api.Event, kind int, what func(e api.Event) int64) *big.Int {
	sum := new(big.Int)
	for _, e := range ofKind(l, kind) {
		sum.Add(sum, big.NewInt(what(e)))
	}
	return sum
}

// scoreOf is the score of a legal history with an event.
func scoreOf(l []api.Event) int64 {
	score, capacity := int64(1000), big.NewInt(l[0].A)
	if tests := ofKind(l, api.EventTest); len(tests) > 0 {
		measured := big.NewInt(tests[len(tests)-1].A)
		score -= max(0, 1000-quotient(measured.Mul(measured, big.NewInt(1000)), capacity))
	}
	through := sumOf(l, api.EventUse, func(e api.Event) int64 { return e.A })
	hot := sumOf(l, api.EventUse, func(e api.Event) int64 { return e.B })
	score -= quotient(through, capacity.Mul(capacity, big.NewInt(10))) + quotient(hot, big.NewInt(1000))
	score -= 20*int64(len(ofKind(l, api.EventFault))) + 5*int64(len(ofKind(l, api.EventPut, api.EventTake)))
	return max(0, score)
}

// gradeOf is the grade of a legal history with an event.
func gradeOf(l []api.Event) int {
	for _, e := range l {
		if e.Kind == api.EventScrap {
			return api.GradeScrap
		}
	}
	for _, e := range l {
		if e.Kind == api.EventRecall && isOpen(l, e.Name) {
			return api.GradeRecall
		}
	}
	score := scoreOf(l)
	for i, least := range []int64{900, 750, 600, 400} {
		if score >= least {
			return i
		}
	}
	return api.GradeE
}

// wantScore and wantGrade are what Score and Grade return.
func wantScore(name string, l []api.Event) answer[int64] {
	if _, e := wantModules(name, l); e != api.OK {
		return bad[int64](e)
	}
	if len(l) == 0 {
		return bad[int64](api.ErrNone)
	}
	return good(scoreOf(l))
}
func wantGrade(name string, l []api.Event) answer[int] {
	if s := wantScore(name, l); s.e != api.OK {
		return bad[int](s.e)
	}
	return good(gradeOf(l))
}
