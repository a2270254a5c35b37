package pack_test

import (
	"slices"
	"testing"

	"coulomb/api"
	"coulomb/pack"
)

// P4.1: packs of all sizes are valid.
func TestCheckOfValidPacks(t *testing.T) {
	for groups := 1; groups <= 16; groups++ {
		for cells := 1; cells <= 4; cells++ {
			p := sized(slices.Repeat([]int{cells}, groups)...)
			if e := pack.Check(p); e != api.OK {
				t.Errorf("Check of %d groups of %d: %d", groups, cells, e)
			}
			if e := pack.CheckStates(p, same(p, api.State{Charge: 1 << 32, Relax: -1 << 23, Temp: 400000, Through: most, Age: most})); e != api.OK {
				t.Errorf("CheckStates of %d groups of %d: %d", groups, cells, e)
			}
		}
	}
	r := chance(1)
	for range 300 {
		p, s := drawPack(r)
		if e, e2 := pack.Check(p), pack.CheckStates(p, s); e != api.OK || e2 != api.OK {
			t.Errorf("Check and CheckStates of %v, %v: %d, %d", p, s, e, e2)
		}
	}
}

// P4.1, R1: packs and states that are not valid.
func TestCheckOfOthers(t *testing.T) {
	for _, x := range wildPacks() {
		if e := pack.Check(x.p); e != x.errno {
			t.Errorf("Check of %v: %d, not %d", x.p, e, x.errno)
		}
		for _, s := range [][][]api.State{x.s, nil, {}, make([][]api.State, 3)} {
			if e := pack.CheckStates(x.p, s); e != x.errno {
				t.Errorf("CheckStates of %v: %d, not %d", x.p, e, x.errno)
			}
		}
	}
	for _, x := range wildPackStates() {
		if e := pack.Check(x.p); e != api.OK {
			t.Errorf("Check of %v: %d", x.p, e)
		}
		if e := pack.CheckStates(x.p, x.s); e != x.errno {
			t.Errorf("CheckStates of %v, %v: %d, not %d", x.p, x.s, e, x.errno)
		}
	}
}

// packCall is a function of a pack and states, with all else that it needs: it returns its error, and whether its other results are zero.
type packCall struct {
	name string
	call func(p api.Pack, s [][]api.State) (api.Errno, bool)
}

// packCalls are all functions of a pack and states.
func packCalls(group int, x, unit int64, l []api.Input, lim api.Limits) []packCall {
	in := api.Input{Current: x, Ambient: x}
	return []packCall{
		{"CheckStates", func(p api.Pack, s [][]api.State) (api.Errno, bool) { return pack.CheckStates(p, s), true }},
		{"Split", func(p api.Pack, s [][]api.State) (api.Errno, bool) {
			parts, v, e := pack.Split(p, s, group, x)
			return e, len(parts) == 0 && v == 0
		}},
		{"Voltage", func(p api.Pack, s [][]api.State) (api.Errno, bool) {
			v, e := pack.Voltage(p, s, x)
			return e, v == 0
		}},
		{"Step", func(p api.Pack, s [][]api.State) (api.Errno, bool) {
			after, e := pack.Step(p, s, in)
			return e, len(after) == 0
		}},
		{"Run", func(p api.Pack, s [][]api.State) (api.Errno, bool) {
			after, e := pack.Run(p, s, l)
			return e, len(after) == 0
		}},
		{"Safe", func(p api.Pack, s [][]api.State) (api.Errno, bool) {
			safe, e := pack.Safe(p, s, lim, in)
			return e, !safe
		}},
		{"MostOut", func(p api.Pack, s [][]api.State) (api.Errno, bool) {
			current, e := pack.MostOut(p, s, lim, x)
			return e, current == 0
		}},
		{"Usable", func(p api.Pack, s [][]api.State) (api.Errno, bool) {
			charge, weakest, e := pack.Usable(p, s)
			return e, charge == 0 && weakest == 0
		}},
		{"Levels", func(p api.Pack, s [][]api.State) (api.Errno, bool) {
			levels, e := pack.Levels(p, s, unit)
			return e, len(levels) == 0
		}},
	}
}

// R1, R2, P4.1 to P4.5: the errors of packs, and then those of states, come before all others.
func TestErrorsOfPacksAndStates(t *testing.T) {
	good := packCalls(0, 0, 1, nil, wide())
	bad := packCalls(-1, -1<<20-1, 0, make([]api.Input, 10001), api.Limits{Out: -1})
	for _, f := range append(good, bad...) {
		for _, x := range append(wildPacks(), wildPackStates()...) {
			if e, zero := f.call(x.p, x.s); e != x.errno || !zero {
				t.Errorf("%s of %v, %v: %d, not %d", f.name, x.p, x.s, e, x.errno)
			}
		}
	}
}
