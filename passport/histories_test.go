package passport_test

import (
	"fmt"
	"math/rand"
	"slices"
	"strings"
	"testing"

	"coulomb/api"
	"coulomb/passport"
)

// checkHistory checks all that is told of a history.
func checkHistory(t *testing.T, name string, l []api.Event) {
	t.Helper()
	same(t, foundOf(passport.Legal(name, l)), wantLegal(name, l), "Legal", name, l)
	modules, e := passport.Modules(name, l)
	want, wantError := wantModules(name, l)
	sameList(t, modules, want, "Modules", name, l)
	same(t, e, wantError, "Modules", name, l)
	same(t, answerOf(passport.Score(name, l)), wantScore(name, l), "Score", name, l)
	same(t, answerOf(passport.Grade(name, l)), wantGrade(name, l), "Grade", name, l)
}

// begun are a history of the pack p with two modules, at 5, and more events.
func begun(more ...api.Event) []api.Event {
	return append([]api.Event{made(5, 1000, 2, "b1")}, more...)
}

// P7.4: histories by hand: the index of the event that is wrong, or their length.
func TestLegal(t *testing.T) {
	for _, x := range []struct {
		texts string
		want  found
	}{
		{"", legal(0)},
		{"made 5 1000 2 b1", legal(1)},
		{"made 0 1 0 b, scrap 0", legal(2)},
		{"made 5 1000 2 b1, made 5 1000 2 b1", wrongAt(1)},
		{"made 5 1000 0 b1, made 6 1000 0 b2", wrongAt(1)},
		{"use 5 1 1", wrongAt(0)}, {"test 5 1", wrongAt(0)}, {"fault 5 1", wrongAt(0)}, {"put 5 q:0 q", wrongAt(0)}, {"take 5 p:0 q", wrongAt(0)},
		{"recall 5 fire", wrongAt(0)}, {"clear 5 fire", wrongAt(0)}, {"scrap 5", wrongAt(0)},
		{"made 5 1000 2 b1, use 5 1 1, test 5 1, fault 5 1, put 5 q:0 q, take 5 p:0 q, recall 5 fire, clear 5 fire", legal(8)},
		{"made 5 1000 2 b1, use 4 1 1", wrongAt(1)},
		{"made 5 1000 2 b1, test 6 1, use 5 1 1", wrongAt(2)},
		{"made 5 1000 2 b1, fault 9 1, put 8 q:0 q", wrongAt(2)}, {"made 5 1000 2 b1, fault 9 1, take 8 p:0 q", wrongAt(2)},
		{"made 5 1000 2 b1, fault 9 1, recall 8 fire", wrongAt(2)}, {"made 5 1000 2 b1, recall 9 fire, clear 8 fire", wrongAt(2)}, {"made 5 1000 0 b1, fault 9 1, scrap 8", wrongAt(2)},
		{"made 5 1000 2 b1, put 5 q:1 q", legal(2)},
		{"made 5 1000 2 b1, put 5 q:1 q, put 6 q:1 r", wrongAt(2)},
		{"made 5 1000 2 b1, put 5 q:1 q, take 6 q:1 r, put 6 q:1 r", legal(4)},
		{"made 5 1000 2 b1, put 5 p:1 q", wrongAt(1)}, // it is there
		{"made 5 1000 2 b1, put 5 p:2 q", legal(2)},
		{"made 5 1000 2 b1, put 5 q:0 p", wrongAt(1)}, // from the pack itself
		{"made 5 1000 2 b1, take 5 p:1 q, put 6 p:1 q", legal(3)},
		{"made 5 1000 2 b1, take 5 p:1 q, take 6 p:1 q", wrongAt(2)},
		{"made 5 1000 2 b1, take 5 p:2 q", wrongAt(1)}, {"made 5 1000 2 b1, take 5 q:0 q", wrongAt(1)},
		{"made 5 1000 2 b1, take 5 p:1 p", wrongAt(1)}, // into the pack itself
		{"made 5 1000 2 b1, clear 5 fire", wrongAt(1)},
		{"made 5 1000 2 b1, recall 5 fire, recall 6 fire", wrongAt(2)},
		{"made 5 1000 2 b1, recall 5 fire, recall 6 water, clear 7 fire, clear 7 water", legal(5)},
		{"made 5 1000 2 b1, recall 5 fire, clear 6 water", wrongAt(2)},
		{"made 5 1000 2 b1, recall 5 fire, clear 6 fire, clear 6 fire", wrongAt(3)},
		{"made 5 1000 2 b1, recall 5 fire, clear 6 fire, recall 6 fire, recall 6 fire", wrongAt(4)},
		{"made 5 1000 2 b1, scrap 5", wrongAt(1)},
		{"made 5 1000 2 b1, take 5 p:0 q, scrap 5", wrongAt(2)},
		{"made 5 1000 2 b1, take 5 p:0 q, take 6 p:1 q, scrap 7", legal(4)},
		{"made 5 1000 0 b1, put 6 q:0 q, scrap 7", wrongAt(2)},
		{"made 5 1000 0 b1, recall 6 fire, scrap 7", legal(3)},
		{"made 5 1000 0 b1, recall 6 fire, scrap 7, clear 8 fire", wrongAt(3)},
		{"made 5 1000 0 b1, scrap 5, scrap 5", wrongAt(2)}, {"made 5 1000 0 b1, scrap 5, made 5 1000 0 b1", wrongAt(2)}, {"made 5 1000 0 b1, scrap 5, use 5 0 0", wrongAt(2)},
		{"made 5 1000 0 b1, scrap 5, test 5 0", wrongAt(2)}, {"made 5 1000 0 b1, scrap 5, fault 5 1", wrongAt(2)}, {"made 5 1000 0 b1, scrap 5, put 5 q:0 q", wrongAt(2)}, {"made 5 1000 0 b1, scrap 5, recall 5 fire", wrongAt(2)},
		{"made 5 1000 2 b1, use 4 1 1, use 5 1 1", wrongAt(1)}, // the first one is told
	} {
		var l []api.Event
		if x.texts != "" {
			l = parsed(t, strings.Split(x.texts, ", ")...)
		}
		same(t, foundOf(passport.Legal("p", l)), x.want, "Legal", x.texts)
		checkHistory(t, "p", l)
	}
}

// P7.4: events that are not valid, in histories.
func TestLegalWithWildEvents(t *testing.T) {
	for _, e := range append(variants(false), api.Event{}, api.Event{Kind: 10, At: 5}, api.Event{Kind: -1}) {
		same(t, foundOf(passport.Legal("p", []api.Event{e})), wrongAt(0), "Legal", e)
		l := begun(used(6, 1, 1), e, used(4, 1, 1))
		same(t, foundOf(passport.Legal("p", l)), wrongAt(2), "Legal", l)
		l[1].At = mostTime // the time of the other ones counts
		same(t, foundOf(passport.Legal("p", l[:2])), legal(2), "Legal", l[:2])
		checkHistory(t, "p", l[:3])
	}
}

// P7.4: the name of the pack itself is the one that is given.
func TestLegalByName(t *testing.T) {
	for _, name := range goodNames() {
		for _, l := range [][]api.Event{{made(0, 1, 1, name), take(0, name+":0", "r"), put(1, name+":0", "r")}, {made(0, 1, 1, "b"), take(0, name+":0", name)}, {made(0, 1, 1, "b"), put(0, "q:0", name)}, {made(0, 1, 1, "b"), take(0, name+"0:0", "r")}} {
			checkHistory(t, name, l)
		}
	}
	same(t, foundOf(passport.Legal("q", begun(take(5, "q:1", "p")))), legal(2), "Legal of q")
	same(t, foundOf(passport.Legal("q", begun(take(5, "p:1", "p")))), wrongAt(1), "Legal of q")
	same(t, foundOf(passport.Legal("q", begun(take(5, "q:1", "q")))), wrongAt(1), "Legal of q")
}

// P7.4: a pack with all modules that it can have.
func TestFullPack(t *testing.T) {
	l := []api.Event{made(0, 1, mostModules-1, "b"), put(0, "q:0", "q")}
	same(t, foundOf(passport.Legal("p", l)), legal(2), "Legal", l)
	more := append(l, put(0, "q:1", "q"))
	same(t, foundOf(passport.Legal("p", more)), wrongAt(2), "Legal", more)
	more = append(l, put(0, "q:0", "r"))
	same(t, foundOf(passport.Legal("p", more)), wrongAt(2), "Legal", more)
	more = append(l, take(0, "p:5", "q"), put(0, "q:1", "q"), put(0, "q:2", "q"))
	same(t, foundOf(passport.Legal("p", more)), wrongAt(4), "Legal", more)
	l = []api.Event{made(0, 1, mostModules, "b"), put(0, "q:0", "q")}
	same(t, foundOf(passport.Legal("p", l)), wrongAt(1), "Legal", l)
	checkHistory(t, "p", append(l[:1:1], take(3, "p:31", "q"), put(3, "q:0", "q"), take(4, "p:0", "q")))
	l = l[:1:1]
	for i := range mostModules {
		l = append(l, take(1, fmt.Sprintf("p:%d", (i*7)%32), "q"))
	}
	checkHistory(t, "p", append(l, scrap(2)))
	same(t, foundOf(passport.Legal("p", append(l, scrap(2)))), legal(34), "Legal")
}

// P7.4, P7.5: names that are none, and histories that are too long; ErrArg is before ErrMany, ErrMany before what is in the list.
func TestHistoryErrors(t *testing.T) {
	long := begun(times(mostEvents-1, used(5, 1, 1))...)
	checkHistory(t, "p", long)
	same(t, foundOf(passport.Legal("p", long)), legal(mostEvents), "Legal of a full history")
	for _, l := range [][]api.Event{append(long, used(5, 1, 1)), times(mostEvents+1, api.Event{}), times(1<<16, scrap(-1))} {
		same(t, foundOf(passport.Legal("p", l)), notFound(api.ErrMany), "Legal of a long history")
		modules, e := passport.Modules("p", l)
		sameList(t, modules, nil, "Modules of a long history")
		same(t, e, api.ErrMany, "Modules of a long history")
		same(t, answerOf(passport.Score("p", l)), bad[int64](api.ErrMany), "Score of a long history")
		same(t, answerOf(passport.Grade("p", l)), bad[int](api.ErrMany), "Grade of a long history")
	}
	for _, name := range append(wildNames(), goodModules()...) {
		for _, l := range [][]api.Event{nil, begun(), begun(scrap(0)), times(mostEvents+1, used(0, 0, 0))} {
			same(t, foundOf(passport.Legal(name, l)), notFound(api.ErrArg), "Legal")
			modules, e := passport.Modules(name, l)
			sameList(t, modules, nil, "Modules")
			same(t, e, api.ErrArg, "Modules")
			same(t, answerOf(passport.Score(name, l)), bad[int64](api.ErrArg), "Score")
			same(t, answerOf(passport.Grade(name, l)), bad[int](api.ErrArg), "Grade")
		}
	}
	for _, none := range [][]api.Event{nil, {}} {
		modules, e := passport.Modules("p", none)
		sameList(t, modules, nil, "Modules of no event")
		same(t, e, api.OK, "Modules of no event")
		same(t, answerOf(passport.Score("p", none)), bad[int64](api.ErrNone), "Score of no event")
		same(t, answerOf(passport.Grade("p", none)), bad[int](api.ErrNone), "Grade of no event")
	}
	for _, l := range [][]api.Event{{used(5, 1, 1)}, begun(scrap(5)), begun(used(4, 1, 1)), {{}}} {
		same(t, answerOf(passport.Score("p", l)), bad[int64](api.ErrState), "Score", l)
		same(t, answerOf(passport.Grade("p", l)), bad[int](api.ErrState), "Grade", l)
		checkHistory(t, "p", l)
	}
}

// P7.5: the modules, in their order.
func TestModules(t *testing.T) {
	for _, x := range []struct {
		texts string
		want  []string
	}{
		{"made 5 1000 0 b1", nil},
		{"made 5 1000 3 b1", []string{"p:0", "p:1", "p:2"}},
		{"made 5 1000 3 b1, put 6 q:7 q, put 6 a:0 q", []string{"p:0", "p:1", "p:2", "q:7", "a:0"}},
		{"made 5 1000 3 b1, take 6 p:1 q", []string{"p:0", "p:2"}},
		{"made 5 1000 3 b1, put 6 q:7 q, take 6 p:0 q, take 6 p:2 q, put 8 p:0 q", []string{"p:1", "q:7", "p:0"}},
		{"made 5 1000 1 b1, take 6 p:0 q, scrap 6", nil},
	} {
		l := parsed(t, strings.Split(x.texts, ", ")...)
		modules, e := passport.Modules("p", l)
		sameList(t, modules, x.want, "Modules", x.texts)
		same(t, e, api.OK, "Modules", x.texts)
	}
	modules, e := passport.Modules("p", []api.Event{made(0, 1, mostModules, "b")})
	var want []string
	for i := range mostModules {
		want = append(want, fmt.Sprintf("p:%d", i))
	}
	sameList(t, modules, want, "Modules")
	same(t, e, api.OK, "Modules")
}

// P7.5: scores by hand.
func TestScores(t *testing.T) {
	for _, x := range []struct {
		want int64
		l    []api.Event
	}{
		{1000, begun()},
		{923, begun(used(6, 50000, 2500), fault(7, 5), tested(8, 950))},
		{1000, begun(tested(5, 1000))}, {1000, begun(tested(5, 1001))}, {1000, begun(tested(5, mostCapacity))}, {999, begun(tested(5, 999))}, {0, begun(tested(5, 0))}, {1, begun(tested(5, 1))},
		{700, begun(tested(5, 800), tested(5, 900), tested(6, 700))}, // the last one
		{1000, begun(tested(5, 10), tested(5, 1000))},
		{333, []api.Event{made(0, 3, 0, "b"), tested(0, 1)}}, {666, []api.Event{made(0, 3, 0, "b"), tested(0, 2)}}, // rounded down
		{999, []api.Event{made(0, mostCapacity, 0, "b"), tested(0, mostCapacity-1)}}, {0, []api.Event{made(0, mostCapacity, 0, "b"), tested(0, 4294967)}}, {1, []api.Event{made(0, mostCapacity, 0, "b"), tested(0, 4294968)}},
		{1000, begun(used(6, 9999, 999))}, {999, begun(used(6, 10000, 999))}, {999, begun(used(6, 9999, 1000))}, {998, begun(used(6, 10000, 1000))},
		{999, begun(used(6, 9999, 0), used(6, 1, 0))}, {999, begun(used(6, 0, 999), used(6, 0, 1))}, {1000, begun(used(6, 9999, 999), fault(6, 1))[:2]}, // sums, not quotients, are rounded
		{998, begun(used(6, 5000, 0), used(6, 5000, 0), used(6, 5000, 500), used(6, 4999, 500))},
		{1, begun(used(6, 0, 999999))}, {0, begun(used(6, 0, 1000000))}, {0, begun(used(6, 0, 1001000))}, {0, begun(used(6, quantities, quantities))},
		{980, begun(fault(6, 1))}, {960, begun(fault(6, 1), fault(6, 12))}, {20, begun(times(49, fault(6, 3))...)}, {0, begun(times(50, fault(6, 3))...)}, {0, begun(times(499, fault(6, 3))...)},
		{995, begun(put(6, "q:0", "q"))}, {995, begun(take(6, "p:0", "q"))}, {990, begun(take(6, "p:0", "q"), put(6, "p:0", "q"))},
		{1000, begun(recall(6, "a"), cleared(6, "a"))}, {1000, []api.Event{made(0, 1, 0, "b"), scrap(0)}},
		{965, begun(take(6, "p:0", "q"), take(6, "p:1", "q"), tested(6, 995), fault(7, 1), scrap(8))},
		{0, append([]api.Event{made(0, 1, 0, "b")}, times(499, used(0, quantities, quantities))...)},
		{1000 - 972, append([]api.Event{made(0, mostCapacity, 0, "b")}, times(38, used(0, quantities, 0))...)}, // 38 times 25.6
	} {
		same(t, answerOf(passport.Score("p", x.l)), good(x.want), "Score", x.l[:min(len(x.l), 5)])
		checkHistory(t, "p", x.l)
	}
}

// P7.5: grades at the bounds of the scores.
func TestGrades(t *testing.T) {
	for score, want := range map[int64]int{1000: api.GradeA, 901: api.GradeA, 900: api.GradeA, 899: api.GradeB, 751: api.GradeB, 750: api.GradeB, 749: api.GradeC, 600: api.GradeC, 599: api.GradeD, 400: api.GradeD, 399: api.GradeE, 1: api.GradeE, 0: api.GradeE} {
		for _, l := range [][]api.Event{begun(tested(5, score)), begun(used(5, 0, 1000*(1000-score))), begun(used(5, 10000*(1000-score), 0))} {
			same(t, answerOf(passport.Score("p", l)), good(score), "Score", l)
			same(t, answerOf(passport.Grade("p", l)), good(want), "Grade", l)
			same(t, answerOf(passport.Grade("p", append(l, recall(9, "a")))), good(api.GradeRecall), "Grade, recalled", l)
			same(t, answerOf(passport.Grade("p", append(l, recall(9, "a"), recall(9, "b"), cleared(9, "a")))), good(api.GradeRecall), "Grade, recalled", l)
			same(t, answerOf(passport.Grade("p", append(l, recall(9, "a"), recall(9, "b"), cleared(9, "b"), cleared(9, "a")))), good(want), "Grade, cleared", l)
		}
	}
	l := []api.Event{made(5, 1000, 0, "b1"), tested(6, 100)}
	same(t, answerOf(passport.Grade("p", append(l, scrap(9)))), good(api.GradeScrap), "Grade, scrapped")
	same(t, answerOf(passport.Grade("p", append(l, recall(9, "a"), scrap(9)))), good(api.GradeScrap), "Grade, recalled and scrapped")
}

// drawNext draws an event that may follow: names are few, so that it often can.
func drawNext(r *rand.Rand, at int64) api.Event {
	name, module := pick(r, "p", "q", "r"), pick(r, "p", "q", "r")+":"+pick(r, "0", "1", "2")
	reason := pick(r, "a", "b")
	at = max(0, at+pick[int64](r, 0, 0, 1, 1, 5, 5, -1))
	switch r.Intn(16) {
	case 0:
		return made(at, drawFrom(r, 1, mostCapacity), drawInt(r, 0, 3), "b")
	case 1, 2:
		return used(at, pick(r, drawInt(r, 0, 20000), drawFrom(r, 0, quantities)), pick(r, drawInt(r, 0, 20000), drawFrom(r, 0, quantities)))
	case 3, 4:
		return tested(at, pick(r, drawInt(r, 0, 2000), drawFrom(r, 0, mostCapacity)))
	case 5:
		return fault(at, drawInt(r, 1, 12))
	case 6, 7, 8:
		return put(at, module, name)
	case 9, 10, 11:
		return take(at, module, name)
	case 12, 13:
		return recall(at, reason)
	case 14:
		return cleared(at, reason)
	}
	return scrap(at)
}

// drawHistory draws a history that is legal up to its last event, which perhaps cannot follow.
func drawHistory(r *rand.Rand, name string, n int) []api.Event {
	l := []api.Event{made(drawInt(r, 0, 9), pick(r, drawInt(r, 1, 2000), drawFrom(r, 1, mostCapacity)), drawInt(r, 0, 3), "b")}
	for range n {
		if e := drawNext(r, l[len(l)-1].At); canFollow(name, l, e) {
			l = append(l, e)
		}
	}
	if r.Intn(2) == 0 {
		l = append(l, drawNext(r, l[len(l)-1].At))
	}
	return l
}

// P7.4, P7.5: drawn histories.
func TestHistories(t *testing.T) {
	r := chance(7)
	for range 4000 {
		l := drawHistory(r, "p", r.Intn(30))
		checkHistory(t, "p", l)
		if r.Intn(3) == 0 { // an event is left out, doubled, or exchanged
			i, j := r.Intn(len(l)), r.Intn(len(l))
			l[i], l[j] = l[j], l[i]
			checkHistory(t, "p", l)
			checkHistory(t, "p", slices.Delete(slices.Clone(l), i, i+1))
			checkHistory(t, "p", slices.Insert(slices.Clone(l), i, l[j]))
			checkHistory(t, "q", l)
		}
	}
}

// P7.19: a use, a fault and a move never make the score greater.
func TestScoresDoNotGrow(t *testing.T) {
	r := chance(8)
	followed := 0
	for range 3000 {
		l := drawHistory(r, "p", r.Intn(12))
		before, e := passport.Score("p", l)
		if e != api.OK {
			continue
		}
		at := l[len(l)-1].At
		for _, next := range []api.Event{used(at, 0, 0), used(at, drawFrom(r, 0, quantities), drawFrom(r, 0, quantities)), fault(at, drawInt(r, 1, 12)), put(at, "q:9", "q"), take(at, "p:0", "q")} {
			if behind, e := passport.Score("p", append(l, next)); e == api.OK {
				followed++
				if behind > before {
					t.Errorf("the score of %v grows from %d to %d by %v", l, before, behind, next)
				}
			}
		}
	}
	if followed < 5000 {
		t.Errorf("just %d events could follow", followed)
	}
}
