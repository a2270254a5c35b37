package pack_test

import (
	"math"
	"reflect"
	"slices"
	"testing"

	"coulomb/api"
	"coulomb/pack"
)

// R5, P4.2 to P4.5: no argument is changed, and no result shares memory with one, with another result, or within.
func TestPacksShareNothing(t *testing.T) {
	p := api.Pack{Groups: [][]api.Cell{{lively(), lively()}, {plain(3500000, 1000)}}}
	s := [][]api.State{{{Charge: 500000, Temp: 300000}, {Charge: 400000, Temp: 300000}}, {{Charge: 600000, Temp: 300000}}}
	l := []api.Input{{Current: 5000, Ambient: 290000}, {Current: -3000, Ambient: 310000}}
	wantPack, wantStates, wantInputs := cloneOf(p), deep(s), slices.Clone(l)
	pack.Voltage(p, s, 5)
	pack.Safe(p, s, wide(), l[0])
	pack.MostOut(p, s, wide(), 300000)
	pack.Usable(p, s)
	pack.CheckStates(p, s)
	parts, _, _ := pack.Split(p, s, 0, 5000)
	levels, _ := pack.Levels(p, s, 10000)
	wantParts, wantLevels := slices.Clone(parts), slices.Clone(levels)
	var results, wants [][][]api.State
	for _, inputs := range [][]api.Input{nil, l[:1], l} {
		for range 2 {
			after, _ := pack.Run(p, s, inputs)
			results, wants = append(results, after), append(wants, deep(after))
		}
	}
	after, _ := pack.Step(p, s, l[0])
	results, wants = append(results, after), append(wants, deep(after))
	if !reflect.DeepEqual(p, wantPack) || !sameLists(s, wantStates) || !slices.Equal(l, wantInputs) {
		t.Errorf("an argument is changed: %v, %v, %v", p, s, l)
	}
	for i := range results {
		spoilLists(results[i], api.State{Charge: -5})
		spoil(results[i], nil)
		if !sameLists(s, wantStates) {
			t.Fatalf("a result shares memory with an argument: %v", s)
		}
		for k := i + 1; k < len(results); k++ {
			if !sameLists(results[k], wants[k]) {
				t.Fatalf("results share memory: %v, not %v", results[k], wants[k])
			}
		}
	}
	otherParts, _, _ := pack.Split(p, s, 0, 5000)
	otherLevels, _ := pack.Levels(p, s, 10000)
	spoil(otherParts, -7)
	spoil(otherLevels, -7)
	spoilLists(s, api.State{})
	if !slices.Equal(parts, wantParts) || !slices.Equal(levels, wantLevels) {
		t.Errorf("results share memory: %v, %v", parts, levels)
	}
}

// R5: the lists of one result share no memory.
func TestListsOfStatesShareNothing(t *testing.T) {
	p := sized(2, 2, 2)
	s := same(p, api.State{Charge: 500})
	for _, l := range [][]api.Input{nil, {{Current: 2}}} {
		for i := range 3 {
			after, _ := pack.Run(p, s, l)
			want := deep(after)
			spoil(after[i], api.State{Charge: 7})
			for k := range 3 {
				if k != i && !slices.Equal(after[k], want[k]) {
					t.Errorf("the groups %d and %d share memory", i, k)
				}
			}
		}
	}
}

// R5, P4.6 to P4.12: the same for levels and plans.
func TestPlansShareNothing(t *testing.T) {
	c, flows := []int{9, 1, 9, 9}, []int{4, -1, 1}
	wantLevels, wantFlows := slices.Clone(c), slices.Clone(flows)
	for range 2 {
		behind, _ := pack.Behind(c, flows)
		after, _ := pack.After(c, flows, 2)
		m, _ := pack.Fewest(c, 7, 7)
		q, _ := pack.Quickest(c, 7, 7)
		d, _ := pack.Bleed(c, 2, 2)
		m2, q2, d2 := m, slices.Clone(q.Flows), api.Drain{Loss: slices.Clone(d.Loss), Ticks: deep(d.Ticks)}
		m2.Flows, m2.Prices = slices.Clone(m.Flows), slices.Clone(m.Prices)
		if pack.CheckFewest(c, 7, 7, m) != api.OK || pack.CheckQuickest(c, 7, 7, q) != api.OK || pack.CheckBleed(c, 2, 2, d) != api.OK {
			t.Errorf("the plans %v, %v and %v are not accepted", m, q, d)
		}
		pack.Needs(c, 7, 7, 0, 1)
		pack.Narrowest(c, 2)
		if !reflect.DeepEqual(m, m2) || !slices.Equal(q.Flows, q2) || !sameDrain(d, d2) || !slices.Equal(c, wantLevels) || !slices.Equal(flows, wantFlows) {
			t.Errorf("an argument is changed: %v, %v, %v, %v, %v", m, q, d, c, flows)
		}
		spoil(behind, -7)
		spoil(after, -7)
		spoil(m.Flows, -7)
		if !slices.Equal(m.Prices, m2.Prices) {
			t.Errorf("flows and prices share memory: %v", m)
		}
		spoil(m.Prices, -7)
		spoil(q.Flows, -7)
		spoil(d.Loss, -7)
		for i := range d.Ticks {
			spoil(d.Ticks[i], -7)
			if !sameLists(d.Ticks[i+1:], d2.Ticks[i+1:]) {
				t.Errorf("ticks share memory: %v, not %v", d.Ticks, d2.Ticks)
			}
		}
		if !slices.Equal(c, wantLevels) || !slices.Equal(flows, wantFlows) {
			t.Errorf("a result shares memory with an argument: %v, %v", c, flows)
		}
	}
}

// R3: nil and empty lists are the same.
func TestNilAndEmpty(t *testing.T) {
	for _, none := range [][]int{nil, {}} {
		if levels, e := pack.Behind([]int{7}, none); !slices.Equal(levels, []int{7}) || e != api.OK {
			t.Errorf("Behind: %v, %d", levels, e)
		}
		if levels, e := pack.After([]int{7}, none, 0); !slices.Equal(levels, []int{7}) || e != api.OK {
			t.Errorf("After: %v, %d", levels, e)
		}
		if e := pack.CheckFewest([]int{7}, 7, 7, api.Moves{Flows: none, Prices: []int{1}}); e != api.OK {
			t.Errorf("CheckFewest: %d", e)
		}
		if e := pack.CheckFewest([]int{7}, 7, 7, api.Moves{Flows: none, Prices: none}); e != api.ErrEqual {
			t.Errorf("CheckFewest without prices: %d", e)
		}
		if e := pack.CheckQuickest([]int{7}, 7, 7, api.Quick{Flows: none}); e != api.OK {
			t.Errorf("CheckQuickest: %d", e)
		}
		if e := pack.CheckBleed([]int{5, 7}, 1, 1, api.Drain{Loss: none}); e != api.ErrEqual {
			t.Errorf("CheckBleed without losses: %d", e)
		}
		// the tick in the middle is empty
		if e := pack.CheckBleed([]int{0, 2, 2}, 0, 2, api.Drain{Loss: []int{0, 2, 2}, Ticks: [][]int{{1, 2}, none, {2, 1}}}); e != api.ErrSum {
			t.Errorf("CheckBleed with an empty tick: %d", e)
		}
	}
	for _, cells := range [][]api.Cell{nil, {}} {
		if e := pack.Check(api.Pack{Groups: [][]api.Cell{cells}}); e != api.ErrMany {
			t.Errorf("Check: %d", e)
		}
	}
	for _, states := range [][]api.State{nil, {}} {
		if e := pack.CheckStates(sized(1), [][]api.State{states}); e != api.ErrEqual {
			t.Errorf("CheckStates: %d", e)
		}
	}
}

// planCall is what a function of levels returns: its name, its error, and all else.
type planCall struct {
	name   string
	errno  api.Errno
	result any
}

// planCalls calls all functions of levels.
func planCalls(c, flows, prices []int, ticks [][]int, x, y, z, w int) []planCall {
	behind, e1 := pack.Behind(c, flows)
	after, e2 := pack.After(c, flows, x)
	fewest, e3 := pack.Fewest(c, x, y)
	quickest, e4 := pack.Quickest(c, x, y)
	need, e5 := pack.Needs(c, x, y, z, w)
	lo, hi, e6 := pack.Narrowest(c, x)
	drain, e7 := pack.Bleed(c, x, y)
	return []planCall{
		{"Behind", e1, behind}, {"After", e2, after}, {"Fewest", e3, fewest}, {"Quickest", e4, quickest}, {"Needs", e5, need}, {"Narrowest", e6, [2]int{lo, hi}}, {"Bleed", e7, drain},
		{"CheckFewest", pack.CheckFewest(c, x, y, api.Moves{Flows: flows, Count: z, Prices: prices}), nil},
		{"CheckQuickest", pack.CheckQuickest(c, x, y, api.Quick{Flows: flows, Ticks: w, From: z, To: w}), nil},
		{"CheckBleed", pack.CheckBleed(c, x, y, api.Drain{Loss: prices, Ticks: ticks}), nil},
	}
}

// isZero reports whether a result is its zero value; an empty list is nil.
func isZero(result any) bool {
	switch x := result.(type) {
	case nil:
		return true
	case []int:
		return len(x) == 0
	case api.Moves:
		return len(x.Flows) == 0 && x.Count == 0 && len(x.Prices) == 0
	case api.Quick:
		return len(x.Flows) == 0 && x.Ticks == 0 && x.From == 0 && x.To == 0
	case api.Drain:
		return len(x.Loss) == 0 && len(x.Ticks) == 0
	}
	return reflect.ValueOf(result).IsZero()
}

// P1, R2, R6, R10: no levels, flows or numbers make a function panic; with an error all other results are zero; a call again returns the same.
func TestAnyLevels(t *testing.T) {
	r := chance(12)
	numbers := []int{math.MinInt, math.MinInt + 1, -2001, -2000, -17, -1, 0, 0, 1, 2, 3, 15, 16, 17, 99, 100, 101, 2000, 2001, math.MaxInt - 1, math.MaxInt}
	list := func(n int) []int {
		l := make([]int, n)
		for i := range l {
			l[i] = r.Intn(5)
			if r.Intn(20) == 0 {
				l[i] = pick(r, numbers...)
			}
		}
		return l
	}
	for range 5000 {
		n := pick(r, 0, 1, 2, 3, 15, 16, 17)
		c, flows, prices := list(n), list(max(0, n-1)), list(n)
		if r.Intn(10) == 0 {
			flows, prices = list(r.Intn(20)), list(r.Intn(20))
		}
		var ticks [][]int
		for range r.Intn(4) {
			ticks = append(ticks, list(r.Intn(4)))
		}
		x, y, z, w := pick(r, numbers...), pick(r, numbers...), pick(r, numbers...), pick(r, numbers...)
		again := planCalls(c, flows, prices, ticks, x, y, z, w)
		for i, f := range planCalls(c, flows, prices, ticks, x, y, z, w) {
			if f.errno != api.OK && !isZero(f.result) {
				t.Errorf("%s returns more than the error %d: %v", f.name, f.errno, f.result)
			}
			if !reflect.DeepEqual(f, again[i]) {
				t.Errorf("%s does not return the same again: %v, %v", f.name, f, again[i])
			}
		}
	}
}

// P1, R2, R6, R10: the same for packs and states.
func TestAnyPacks(t *testing.T) {
	r := chance(13)
	packs := append(wildPacks(), wildPackStates()...)
	numbers := append(wildNumbers(), -1<<20-1, -1<<20, -1, 0, 1, 5, 400000, 400001, 1<<20, 1<<20+1)
	limits := append(wildLimits(), wide(), api.Limits{})
	inputs := [][]api.Input{nil, {}, {{}}, {{Current: math.MinInt64}}, {{Ambient: math.MaxInt64}}, make([]api.Input, 3), make([]api.Input, 10001)}
	for range 2000 {
		p, s := drawPack(r)
		if r.Intn(10) == 0 {
			x := packs[r.Intn(len(packs))]
			p = x.p
			if r.Intn(2) == 0 {
				s = x.s
			}
		}
		calls := packCalls(pick(r, 0, 0, 0, 1, -1, 16, math.MinInt, math.MaxInt), pick(r, numbers...), pick(r, numbers...), inputs[r.Intn(len(inputs))], limits[r.Intn(len(limits))])
		for _, f := range calls {
			e, zero := f.call(p, s)
			e2, zero2 := f.call(p, s)
			if e != api.OK && !zero {
				t.Errorf("%s returns more than the error %d", f.name, e)
			}
			if e != e2 || zero != zero2 {
				t.Errorf("%s does not return the same again: %d, %d", f.name, e, e2)
			}
		}
		if a, b := pack.Check(p), pack.Check(p); a != b {
			t.Errorf("Check does not return the same again: %d, %d", a, b)
		}
	}
}
