package pack_test

import (
	"slices"
	"testing"

	"coulomb/api"
	"coulomb/cell"
	"coulomb/pack"
)

// P4.3: the voltage of a pack is the sum of those of its groups.
func TestVoltage(t *testing.T) {
	p := api.Pack{Groups: [][]api.Cell{{plain(3500000, 1000), plain(3500000, 2000)}, {plain(4000000, 500)}, {plain(-100, 0)}}}
	s := same(p, api.State{})
	s[1][0].Relax = 7
	for _, x := range []struct{ current, want int64 }{
		{0, 3500000 + 3999993 - 100},
		{1, 3499999 + 3999993 - 100},
		{3000, 3498000 + 3998493 - 103},
		{-3000, 3502000 + 4001493 - 97},
		{1 << 20, 2800949 + 3475705 - 1148},
		{-1 << 20, 4199051 + 4524281 + 949},
	} {
		if v, e := pack.Voltage(p, s, x.current); v != x.want || e != api.OK {
			t.Errorf("Voltage for %d: %d, %d, not %d", x.current, v, e, x.want)
		}
	}
	for _, current := range wildCurrents() {
		if v, e := pack.Voltage(p, s, current); v != 0 || e != api.ErrRange {
			t.Errorf("Voltage for %d: %d, %d", current, v, e)
		}
	}
}

// P4.3: a split of any group that is beyond the limits.
func TestOver(t *testing.T) {
	over := []api.Cell{plain(8000000, 1), plain(0, 1)}
	fine := []api.Cell{plain(3500000, 1000), plain(3500000, 1000)}
	for _, p := range []api.Pack{{Groups: [][]api.Cell{over}}, {Groups: [][]api.Cell{over, fine, fine}}, {Groups: [][]api.Cell{fine, over, fine}}, {Groups: [][]api.Cell{fine, fine, over}}} {
		s := same(p, api.State{Charge: 1 << 30})
		for _, current := range []int64{0, 5, -5, 1 << 20, -1 << 20} {
			in := api.Input{Current: current, Ambient: 300000}
			if v, e := pack.Voltage(p, s, current); v != 0 || e != api.ErrOver {
				t.Errorf("Voltage: %d, %d", v, e)
			}
			if after, e := pack.Step(p, s, in); len(after) != 0 || e != api.ErrOver {
				t.Errorf("Step: %v, %d", after, e)
			}
			if after, e := pack.Run(p, s, []api.Input{in}); len(after) != 0 || e != api.ErrOver {
				t.Errorf("Run: %v, %d", after, e)
			}
			if safe, e := pack.Safe(p, s, wide(), in); safe || e != api.ErrOver {
				t.Errorf("Safe: %t, %d", safe, e)
			}
		}
		// an input that is not possible comes first
		for _, in := range []api.Input{{Current: 1<<20 + 1}, {Ambient: -1}, {Ambient: 400001}} {
			if _, e := pack.Voltage(p, s, in.Current); in.Current != 0 && e != api.ErrRange {
				t.Errorf("Voltage for %d: %d", in.Current, e)
			}
			if _, e := pack.Step(p, s, in); e != api.ErrRange {
				t.Errorf("Step for %v: %d", in, e)
			}
			if _, e := pack.Run(p, s, []api.Input{in}); e != api.ErrRange {
				t.Errorf("Run for %v: %d", in, e)
			}
			if _, e := pack.Safe(p, s, wide(), in); e != api.ErrRange {
				t.Errorf("Safe for %v: %d", in, e)
			}
		}
	}
}

// P4.3: in a step each cell gets its part of the split, and the ambient temperature.
func TestStep(t *testing.T) {
	p := api.Pack{Groups: [][]api.Cell{{plain(3500000, 1000), plain(3500000, 2000, leaks(5))}, {plain(4000000, 500, func(c *api.Cell) { c.Cool = 32768 })}}}
	s := [][]api.State{{{Charge: 10000, Temp: 300000}, {Charge: 20000, Temp: 300000}}, {{Charge: 30000, Temp: 300000}}}
	after, e := pack.Step(p, s, api.Input{Current: 3000, Ambient: 290000})
	want := [][]api.State{{{Charge: 8000, Temp: 300000, Through: 2000}, {Charge: 18995, Temp: 300000, Through: 1000}}, {{Charge: 27000, Temp: 295000, Through: 3000}}}
	if !sameLists(after, want) || e != api.OK {
		t.Errorf("Step: %v, %d", after, e)
	}
	after, e = pack.Step(p, s, api.Input{Current: -3000, Ambient: 310000})
	want = [][]api.State{{{Charge: 12000, Temp: 300000, Through: 2000}, {Charge: 20995, Temp: 300000, Through: 1000}}, {{Charge: 33000, Temp: 305000, Through: 3000}}}
	if !sameLists(after, want) || e != api.OK {
		t.Errorf("Step: %v, %d", after, e)
	}
	for _, ambient := range []int64{0, 400000} {
		if _, e := pack.Step(p, s, api.Input{Ambient: ambient}); e != api.OK {
			t.Errorf("Step at %d: %d", ambient, e)
		}
	}
	for _, ambient := range wildAmbients() {
		if after, e := pack.Step(p, s, api.Input{Ambient: ambient}); len(after) != 0 || e != api.ErrRange {
			t.Errorf("Step at %d: %v, %d", ambient, after, e)
		}
	}
	for _, current := range wildCurrents() {
		if after, e := pack.Step(p, s, api.Input{Current: current}); len(after) != 0 || e != api.ErrRange {
			t.Errorf("Step for %d: %v, %d", current, after, e)
		}
	}
}

// P4.3: a cell through which, or behind which, too much has gone.
func TestStepOfWornCells(t *testing.T) {
	aging := plain(3500000, 1000, func(c *api.Cell) { c.Stress = curve(0, 1, 400000, 1) })
	p := api.Pack{Groups: [][]api.Cell{{plain(3500000, 1000)}, {plain(3500000, 1000), aging}}}
	for _, x := range []struct {
		s       [][]api.State
		current int64
		errno   api.Errno
	}{
		{[][]api.State{{{Through: most - 10}}, {{}, {}}}, 10, api.OK},
		{[][]api.State{{{Through: most - 10}}, {{}, {}}}, 11, api.ErrOver},
		{[][]api.State{{{Through: most - 10}}, {{}, {}}}, -11, api.ErrOver},
		{[][]api.State{{{}}, {{}, {Through: most - 10}}}, 21, api.OK}, // the last cell gets 10 of it
		{[][]api.State{{{}}, {{}, {Through: most - 10}}}, 22, api.ErrOver},
		{[][]api.State{{{}}, {{Age: most}, {Age: most - 1}}}, 0, api.OK},
		{[][]api.State{{{}}, {{Age: most}, {Age: most}}}, 0, api.ErrOver},
	} {
		after, e := pack.Step(p, x.s, api.Input{Current: x.current})
		if e != x.errno || (len(after) == 0) != (e != api.OK) {
			t.Errorf("Step of %v for %d: %v, %d, not %d", x.s, x.current, after, e, x.errno)
		}
		if v, e := pack.Voltage(p, x.s, x.current); v == 0 || e != api.OK {
			t.Errorf("Voltage of %v for %d: %d, %d", x.s, x.current, v, e)
		}
	}
}

// stepOf is the step of a pack, as the definitions say.
func stepOf(p api.Pack, s [][]api.State, in api.Input) ([][]api.State, api.Errno) {
	var after [][]api.State
	errno := api.OK
	for i, cells := range p.Groups {
		parts, _ := splitOf(cells, s[i], in.Current)
		if isOver(parts) {
			return nil, api.ErrOver
		}
		var l []api.State
		for k, c := range cells {
			next, e := cell.Step(c, s[i][k], api.Input{Current: parts[k], Ambient: in.Ambient})
			l, errno = append(l, next), max(errno, e)
		}
		after = append(after, l)
	}
	if errno != api.OK {
		return nil, errno
	}
	return after, api.OK
}

// P4.3: voltages, steps and runs of drawn packs.
func TestDrawnPacks(t *testing.T) {
	r := chance(4)
	possible := 0
	for range 1500 {
		p, s := drawPack(r)
		var l []api.Input
		for range r.Intn(6) {
			l = append(l, api.Input{Current: drawCurrent(r) >> r.Intn(12), Ambient: drawFrom(r, 0, 400000)})
		}
		end, errno := s, api.OK
		for _, in := range l {
			if errno != api.OK {
				break
			}
			checkVoltage(t, p, end, in.Current)
			after, e := pack.Step(p, end, in)
			want, wantErrno := stepOf(p, end, in)
			if !sameLists(after, want) || e != wantErrno {
				t.Errorf("Step of %v, %v for %v: %v, %d, not %v, %d", p, end, in, after, e, want, wantErrno)
			}
			end, errno = want, wantErrno
		}
		if after, e := pack.Run(p, s, l); e != errno || !sameLists(after, end) {
			t.Errorf("Run of %v, %v for %v: %v, %d, not %v, %d", p, s, l, after, e, end, errno)
		}
		if errno == api.OK {
			possible++
		}
	}
	if possible < 500 {
		t.Errorf("just %d of the runs are possible", possible)
	}
}

// checkVoltage checks the voltage of a pack.
func checkVoltage(t *testing.T, p api.Pack, s [][]api.State, current int64) {
	t.Helper()
	want, errno := int64(0), api.OK
	for i, cells := range p.Groups {
		parts, v := splitOf(cells, s[i], current)
		want += v
		if isOver(parts) {
			errno = api.ErrOver
		}
	}
	if errno != api.OK {
		want = 0
	}
	if v, e := pack.Voltage(p, s, current); v != want || e != errno {
		t.Errorf("Voltage of %v, %v for %d: %d, %d, not %d, %d", p, s, current, v, e, want, errno)
	}
}

// P4.3: no inputs, as many as there may be, and more.
func TestRunOfManyInputs(t *testing.T) {
	p := sized(2, 1)
	s := same(p, api.State{Charge: 1 << 30, Temp: 300000})
	for _, l := range [][]api.Input{nil, {}} {
		if after, e := pack.Run(p, s, l); !sameLists(after, s) || e != api.OK {
			t.Errorf("Run without inputs: %v, %d", after, e)
		}
	}
	l := slices.Repeat([]api.Input{{Current: 3, Ambient: 300000}}, 10001)
	after, e := pack.Run(p, s, l[:10000])
	want := [][]api.State{{{Charge: 1<<30 - 20000, Temp: 300000, Through: 20000}, {Charge: 1<<30 - 10000, Temp: 300000, Through: 10000}}, {{Charge: 1<<30 - 30000, Temp: 300000, Through: 30000}}}
	if !sameLists(after, want) || e != api.OK {
		t.Errorf("Run of 10,000 inputs: %v, %d", after, e)
	}
	l[0].Ambient = -1 // ErrMany comes first
	if after, e := pack.Run(p, s, l); len(after) != 0 || e != api.ErrMany {
		t.Errorf("Run of 10,001 inputs: %v, %d", after, e)
	}
	if after, e := pack.Run(p, s, l[:10000]); len(after) != 0 || e != api.ErrRange {
		t.Errorf("Run with an ambient temperature that is not possible: %v, %d", after, e)
	}
}

// P4.3: of several steps with an error the first one decides.
func TestRunWithErrors(t *testing.T) {
	p := sized(1)
	s := charged(100)
	s[0][0].Through = most - 10
	over, wild, fine := api.Input{Current: 11}, api.Input{Current: 1<<20 + 1}, api.Input{Current: 6}
	for _, x := range []struct {
		l     []api.Input
		errno api.Errno
	}{
		{[]api.Input{over}, api.ErrOver},
		{[]api.Input{wild}, api.ErrRange},
		{[]api.Input{over, wild}, api.ErrOver},
		{[]api.Input{wild, over}, api.ErrRange},
		{[]api.Input{fine, {}, over, wild}, api.ErrOver},
		{[]api.Input{fine, wild, over}, api.ErrRange},
		{[]api.Input{fine, {}, fine}, api.ErrOver}, // 12 in all
		{[]api.Input{fine, {}, {Current: -4}}, api.OK},
		{[]api.Input{fine, {Ambient: 400001}}, api.ErrRange},
	} {
		after, e := pack.Run(p, s, x.l)
		if e != x.errno || (len(after) == 0) != (e != api.OK) {
			t.Errorf("Run of %v: %v, %d, not %d", x.l, after, e, x.errno)
		}
	}
}
