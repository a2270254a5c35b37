package pack_test

import (
	"testing"

	"coulomb/api"
	"coulomb/cell"
	"coulomb/pack"
	"coulomb/quantity"
)

// isSafeFor reports whether a current is safe for a cell, out of it or into it, as layer 2 says.
func isSafeFor(c api.Cell, s api.State, x int64, lim api.Limits, ambient int64) bool {
	voltage, _ := cell.Voltage(c, s, x)
	heat, _ := cell.Heat(c, s, x)
	temp := min(max(s.Temp+floor(heat*1000, c.HeatCap)+floor((ambient-s.Temp)*c.Cool, 65536), 0), 400000)
	if x >= 0 {
		return voltage >= lim.Least && temp <= lim.Hot && s.Charge >= x+c.Leak
	}
	stress, _ := quantity.At(c.Stress, s.Temp)
	wear := floor((s.Through-x)*c.CycleLoss, 1<<30) + floor((s.Age+stress.Lo)*c.AgeLoss, 1<<30)
	return voltage <= lim.Most && temp <= lim.Hot && s.Charge-x-c.Leak <= max(1, c.Capacity-wear)
}

// safeOf reports whether a current of a pack is safe, as the definition says.
func safeOf(p api.Pack, s [][]api.State, lim api.Limits, in api.Input) (bool, api.Errno) {
	safe := -lim.In <= in.Current && in.Current <= lim.Out
	for i, cells := range p.Groups {
		parts, _ := splitOf(cells, s[i], in.Current)
		if isOver(parts) {
			return false, api.ErrOver
		}
		for k, c := range cells {
			safe = safe && isSafeFor(c, s[i][k], parts[k], lim, in.Ambient)
		}
	}
	return safe, api.OK
}

// safeCase is a pack with limits, and of which currents is asked.
type safeCase struct {
	name    string
	p       api.Pack
	s       [][]api.State
	lim     api.Limits
	ambient int64
	safe    []int64
	others  []int64
	most    int64 // -1: none is safe
}

// cellCases are packs of one cell at 3.5 V with 1,000 microohm: the current in mA is its voltage drop in microvolt.
func cellCases() []safeCase {
	c := alone(plain(3500000, 1000))
	warm := alone(plain(3500000, 1000000, func(c *api.Cell) { c.HeatCap = 1000 }))
	cooled := alone(plain(3500000, 0, func(c *api.Cell) { c.Cool = 32768 }))
	full := charged(1 << 31)
	least := func(x int64) func(lim *api.Limits) { return func(lim *api.Limits) { lim.Least = x } }
	greatest := func(x int64) func(lim *api.Limits) { return func(lim *api.Limits) { lim.Most = x } }
	hot := wide(func(lim *api.Limits) { lim.Hot = 301000 })
	return []safeCase{
		{"nothing is forbidden", c, full, wide(), 0, []int64{0, 1, -1, 1 << 20, -1 << 20}, nil, 1 << 20},
		{"the least voltage", c, full, wide(least(3499900)), 0, []int64{-1 << 20, 0, 100}, []int64{101, 1000, 1 << 20}, 100},
		{"the greatest voltage", c, full, wide(greatest(3500100)), 0, []int64{-100, 0, 1 << 20}, []int64{-101, -1 << 20}, 1 << 20},
		{"a voltage above the greatest one, but it gives", c, full, wide(greatest(3499000)), 0, []int64{0, 5, 1000, 2000}, []int64{-1, -5}, 1 << 20},
		{"a voltage below the least one, but it gets", c, full, wide(least(3600000), greatest(3600000)), 0, []int64{-1, -100000}, []int64{0, 5, -100001}, -1},
		{"the limits of currents", c, full, wide(func(lim *api.Limits) { lim.Out, lim.In = 50, 70 }), 0, []int64{50, 0, -70}, []int64{51, -71, 1 << 20, -1 << 20}, 50},
		{"no current at all", c, full, wide(func(lim *api.Limits) { lim.Out, lim.In = 0, 0 }), 0, []int64{0}, []int64{1, -1}, 0},
		{"too hot from 1,001 mA on", warm, [][]api.State{{{Charge: 1 << 31, Temp: 300000}}}, hot, 300000, []int64{1000, -1000, 0}, []int64{1001, -1001}, 1000},
		{"too hot already", c, [][]api.State{{{Charge: 1 << 31, Temp: 301001}}}, hot, 300000, nil, []int64{0, 1, -1}, -1},
		{"too hot outside", cooled, [][]api.State{{{Charge: 1 << 31, Temp: 300000}}}, hot, 302002, nil, []int64{0, 1, -1}, -1},
		{"not too hot outside", cooled, [][]api.State{{{Charge: 1 << 31, Temp: 300000}}}, hot, 302001, []int64{0, 1, -1}, nil, 1 << 20},
		{"its charge", c, charged(500), wide(), 0, []int64{500, 0, -500}, []int64{501, 1 << 20}, 500},
		{"its charge, with a leak", alone(plain(3500000, 1000, leaks(10))), charged(500), wide(), 0, []int64{490, 0}, []int64{491}, 490},
		{"not even its leak", alone(plain(3500000, 1000, leaks(10))), charged(9), wide(), 0, []int64{-1, -9}, []int64{0, 1}, -1},
		{"its room", alone(plain(3500000, 1000, holds(1000))), charged(900), wide(), 0, []int64{-100, 900}, []int64{-101, 901}, 900},
		{"its room, with a leak", alone(plain(3500000, 1000, holds(1000), leaks(10))), charged(900), wide(), 0, []int64{-110}, []int64{-111}, 890},
		{"its room, which gets less", alone(plain(3500000, 1000, holds(100000), func(c *api.Cell) { c.CycleLoss = 1 << 20 })), charged(0), wide(), 0, []int64{-99903}, []int64{-99904}, 0},
		{"as much as can go through it", c, [][]api.State{{{Charge: 500, Through: most, Age: most}}}, wide(), 0, []int64{500, 0, -500}, []int64{501}, 500},
	}
}

// packCases are packs of several cells.
func packCases() []safeCase {
	a, b := plain(3500100, 1000), plain(3500000, 1000)
	full := plain(3500000, 1000, holds(1000))
	fed := together(plain(4572865, 1000), plain(4572865, 1000), plain(3000000, 1000))
	out := func(x int64) func(lim *api.Limits) { return func(lim *api.Limits) { lim.Out = x } }
	half := api.State{Charge: 1 << 31}
	return []safeCase{
		{"the weakest cell in series decides", alone(b, b, b), charged(500, 400, 600), wide(), 0, []int64{400, -5}, []int64{401, 500}, 400},
		{"cells in parallel share", together(b, b), [][]api.State{{{Charge: 400}, {Charge: 500}}}, wide(), 0, []int64{800, 799}, []int64{801, 900}, 800},
		{"the limits of currents are those of the pack", together(a, b), same(together(a, b), half), wide(out(0), func(lim *api.Limits) { lim.In = 0 }), 0, []int64{0}, []int64{1, -1}, 0},
		{"a cell gives more than the pack may", together(a, b), same(together(a, b), half), wide(out(20), func(lim *api.Limits) { lim.In = 20 }), 0, []int64{20, -20, 0}, []int64{21, -21}, 20},
		{"a full cell is fed by another one", together(a, full), [][]api.State{{half, {Charge: 1000}}}, wide(out(150)), 0, []int64{100, 101, 150}, []int64{0, 99, 151, -1}, 150},
		{"the same up to the first safe current", together(a, full), [][]api.State{{half, {Charge: 1000}}}, wide(out(100)), 0, []int64{100}, []int64{0, 99, 101}, 100},
		{"the same below it", together(a, full), [][]api.State{{half, {Charge: 1000}}}, wide(out(99)), 0, nil, []int64{0, 99, 100}, -1},
		{"the same with just enough in the first cell", together(a, full), [][]api.State{{{Charge: 100}, {Charge: 1000}}}, wide(), 0, []int64{100}, []int64{0, 99, 101}, 100},
		{"the same with less", together(a, full), [][]api.State{{{Charge: 99}, {Charge: 1000}}}, wide(), 0, nil, []int64{0, 99, 100, 101}, -1},
		{"too much flows around at 0 and at 1", fed, same(fed, half), wide(out(100)), 0, []int64{2, 100}, []int64{101}, 100},
		{"too much flows around at all of them", fed, same(fed, half), wide(out(1)), 0, nil, []int64{2}, -1},
		{"a group in the middle gets too hot", api.Pack{Groups: [][]api.Cell{{b}, {b, plain(3500000, 1000, func(c *api.Cell) { c.HeatCap = 1 })}, {b}}},
			[][]api.State{{half}, {half, half}, {half}}, wide(func(lim *api.Limits) { lim.Hot = 999 }), 0, []int64{1998, -1998}, []int64{2002, -2002}, 1999},
	}
}

// P4.4: what is safe for each cell, and for a pack.
func TestSafe(t *testing.T) {
	for _, x := range append(cellCases(), packCases()...) {
		for _, current := range x.safe {
			if safe, e := pack.Safe(x.p, x.s, x.lim, api.Input{Current: current, Ambient: x.ambient}); !safe || e != api.OK {
				t.Errorf("%s, Safe for %d: %t, %d", x.name, current, safe, e)
			}
		}
		for _, current := range x.others {
			if safe, e := pack.Safe(x.p, x.s, x.lim, api.Input{Current: current, Ambient: x.ambient}); safe || e != api.OK {
				t.Errorf("%s, Safe for %d: %t, %d", x.name, current, safe, e)
			}
		}
		want, errno := x.most, api.OK
		if x.most < 0 {
			want, errno = 0, api.ErrLimit
		}
		if current, e := pack.MostOut(x.p, x.s, x.lim, x.ambient); current != want || e != errno {
			t.Errorf("%s, MostOut: %d, %d, not %d, %d", x.name, current, e, want, errno)
		}
	}
}

// P4.4: the errors of limits come first, then those of the input.
func TestSafeErrors(t *testing.T) {
	over := together(plain(8000000, 1), plain(0, 1))
	for _, p := range []api.Pack{sized(2, 1), over} {
		s := same(p, api.State{})
		for _, lim := range wildLimits() {
			for _, in := range []api.Input{{}, {Current: 1<<20 + 1}, {Ambient: -1}} {
				if safe, e := pack.Safe(p, s, lim, in); safe || e != api.ErrArg {
					t.Errorf("Safe with %v for %v: %t, %d", lim, in, safe, e)
				}
				if current, e := pack.MostOut(p, s, lim, in.Ambient); current != 0 || e != api.ErrArg {
					t.Errorf("MostOut with %v at %d: %d, %d", lim, in.Ambient, current, e)
				}
			}
		}
		for _, lim := range []api.Limits{wide(), {}} {
			for _, current := range wildCurrents() {
				if safe, e := pack.Safe(p, s, lim, api.Input{Current: current}); safe || e != api.ErrRange {
					t.Errorf("Safe for %d: %t, %d", current, safe, e)
				}
			}
			for _, ambient := range wildAmbients() {
				if safe, e := pack.Safe(p, s, lim, api.Input{Ambient: ambient}); safe || e != api.ErrRange {
					t.Errorf("Safe at %d: %t, %d", ambient, safe, e)
				}
				if current, e := pack.MostOut(p, s, lim, ambient); current != 0 || e != api.ErrRange {
					t.Errorf("MostOut at %d: %d, %d", ambient, current, e)
				}
			}
		}
	}
	// a split beyond the limits is an error of Safe, and not safe for MostOut
	if safe, e := pack.Safe(over, same(over, api.State{}), api.Limits{}, api.Input{Current: 5}); safe || e != api.ErrOver {
		t.Errorf("Safe: %t, %d", safe, e)
	}
	if current, e := pack.MostOut(over, same(over, api.State{Charge: 1 << 31}), wide(), 0); current != 0 || e != api.ErrLimit {
		t.Errorf("MostOut: %d, %d", current, e)
	}
	// limits of just one number are possible
	p := alone(plain(0, 0))
	if safe, e := pack.Safe(p, charged(0), api.Limits{}, api.Input{}); !safe || e != api.OK {
		t.Errorf("Safe: %t, %d", safe, e)
	}
}

// P4.4: safe currents of drawn packs are those of the definition.
func TestSafeOfDrawnPacks(t *testing.T) {
	r := chance(5)
	count := map[bool]int{}
	for range 6000 {
		p, s := drawPack(r)
		lim, in := drawLimits(r), api.Input{Current: drawCurrent(r) >> r.Intn(12), Ambient: drawFrom(r, 0, 400000)}
		if r.Intn(2) == 0 {
			lim = wide()
		}
		safe, e := pack.Safe(p, s, lim, in)
		if want, errno := safeOf(p, s, lim, in); safe != want || e != errno {
			t.Errorf("Safe of %v, %v, %v for %v: %t, %d, not %t, %d", p, s, lim, in, safe, e, want, errno)
		}
		count[safe]++
	}
	if count[true] < 1000 || count[false] < 1000 {
		t.Errorf("too few are safe, or are not: %v", count)
	}
}

// P4.4: of few currents MostOut returns the greatest one that is safe.
func TestMostOutOfFew(t *testing.T) {
	r := chance(6)
	count := map[api.Errno]int{}
	for range 800 {
		p, s := drawPack(r)
		lim, ambient := wide(), drawFrom(r, 0, 400000)
		if r.Intn(2) == 0 {
			lim = drawLimits(r)
		}
		lim.Out = r.Int63n(40)
		if r.Intn(4) == 0 { // a charge that can be too little for these currents
			i := r.Intn(len(s))
			s[i][0].Charge = min(s[i][0].Charge, r.Int63n(60))
		}
		want, errno := int64(0), api.ErrLimit
		for current := range lim.Out + 1 {
			if safe, _ := safeOf(p, s, lim, api.Input{Current: current, Ambient: ambient}); safe {
				want, errno = current, api.OK
			}
		}
		if current, e := pack.MostOut(p, s, lim, ambient); current != want || e != errno {
			t.Errorf("MostOut of %v, %v, %v at %d: %d, %d, not %d, %d", p, s, lim, ambient, current, e, want, errno)
		}
		count[errno]++
	}
	if count[api.OK] < 100 || count[api.ErrLimit] < 100 {
		t.Errorf("too few can give something, or cannot: %v", count)
	}
}

// P4.4, P4.18: with the current that MostOut returns no limit is passed; with a greater one some limit is.
func TestMostOutOfDrawnPacks(t *testing.T) {
	r := chance(7)
	possible := 0
	for range 3000 {
		p, s := drawPack(r)
		lim, ambient := drawLimits(r), drawFrom(r, 0, 400000)
		if r.Intn(2) == 0 {
			lim = wide()
		}
		current, e := pack.MostOut(p, s, lim, ambient)
		if e == api.OK {
			possible++
			checkKept(t, p, s, lim, api.Input{Current: current, Ambient: ambient})
		} else if e != api.ErrLimit || current != 0 {
			t.Errorf("MostOut: %d, %d", current, e)
		}
		for _, more := range []int64{0, 1, 2, r.Int63n(100), r.Int63n(10000), r.Int63n(1 << 20)} {
			greater := current + 1 + more
			if e != api.OK {
				greater = more
			}
			if safe, _ := safeOf(p, s, lim, api.Input{Current: greater, Ambient: ambient}); safe {
				t.Errorf("MostOut of %v, %v, %v at %d: %d, %d, but %d is safe", p, s, lim, ambient, current, e, greater)
			}
		}
	}
	if possible < 1000 {
		t.Errorf("just %d can give something", possible)
	}
}

// checkKept checks that a step keeps all limits.
func checkKept(t *testing.T, p api.Pack, s [][]api.State, lim api.Limits, in api.Input) {
	t.Helper()
	if in.Current < 0 || in.Current > lim.Out {
		t.Errorf("MostOut of %v: %d", lim, in.Current)
	}
	for i, cells := range p.Groups {
		parts, _, e := pack.Split(p, s, i, in.Current)
		if e != api.OK {
			t.Fatalf("Split: %d", e)
		}
		for k, c := range cells {
			state := s[i][k]
			after, e := cell.Step(c, state, api.Input{Current: parts[k], Ambient: in.Ambient})
			voltage, _ := cell.Voltage(c, state, parts[k])
			if parts[k] >= 0 && (voltage < lim.Least || parts[k] > state.Charge) {
				t.Errorf("%d of a cell at %d with %d: %v", parts[k], voltage, state.Charge, lim)
			}
			if parts[k] < 0 && voltage > lim.Most {
				t.Errorf("%d into a cell at %d: %v", -parts[k], voltage, lim)
			}
			if e != api.OK {
				continue
			}
			room, _ := cell.Capacity(c, api.State{Through: after.Through, Age: after.Age})
			if after.Temp > lim.Hot || parts[k] < 0 && state.Charge-parts[k]-c.Leak > room {
				t.Errorf("%d of a cell with %v leads to %v: %v", parts[k], state, after, lim)
			}
		}
	}
}
