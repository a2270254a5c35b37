package estimate_test

import (
	"math/big"
	"slices"
	"sort"

	"coulomb/api"
	"coulomb/cell"
	"coulomb/estimate"
)

// plainWatcher takes readings as the chapter describes it, step by step: small boxes by looking at each charge.
type plainWatcher struct {
	w     api.Watch
	taken int
	lost  bool
}

// meeting returns what is in both spans, and whether there is something.
func meeting(a, b api.Span) (api.Span, bool) {
	both := span(max(a.Lo, b.Lo), min(a.Hi, b.Hi))
	return both, both.Lo <= both.Hi
}

// take is what Take has to do.
func (p *plainWatcher) take(r api.Reading) api.Errno {
	if p.lost {
		return api.ErrLost
	}
	behind := [4]api.Span{span(-most, most), span(-most, most), span(-most, most), span(-most, most)}
	for i, has := range r.Has {
		if s, e := estimate.Behind(p.w.Sensors[i], r.Value[i]); has && e != api.OK {
			return api.ErrArg
		} else if has {
			behind[i] = s
		}
	}
	b, in, ok := p.cut(behind)
	if !ok {
		p.lost = true
		return api.ErrLost
	}
	b, e := cell.StepBox(p.w.Cell, p.w.Tol, b, in)
	if e != api.OK {
		return e
	}
	p.w.Box, p.taken = b, p.taken+1
	return api.OK
}

// cut is what the steps 1 to 4 make of the box and of the input, and whether there is something that meets in all of them.
func (p *plainWatcher) cut(behind [4]api.Span) (b, in []api.Span, ok bool) {
	current, ok := meeting(behind[api.Current], p.w.Currents)
	ambient, ok2 := meeting(behind[api.Ambient], p.w.Ambients)
	b = slices.Clone(p.w.Box)
	heat, ok3 := meeting(b[2], behind[api.Temp])
	if !ok || !ok2 || !ok3 {
		return nil, nil, false
	}
	b[2] = heat
	if b[0], ok = p.charges(b, current, behind[api.Volt]); !ok {
		return nil, nil, false
	}
	still := slices.Clone(b)
	still[1] = span(0, 0)
	w, _ := cell.VoltageBox(p.w.Cell, p.w.Tol, still, current)
	b[1], ok = meeting(b[1], span(w.Lo-behind[api.Volt].Hi, w.Hi-behind[api.Volt].Lo))
	return b, []api.Span{current, ambient}, ok
}

// charges are those of a box with a voltage that meets what is behind a reading.
func (p *plainWatcher) charges(b []api.Span, current, volt api.Span) (api.Span, bool) {
	volts := func(charge int64) api.Span {
		one := slices.Clone(b)
		one[0] = span(charge, charge)
		v, _ := cell.VoltageBox(p.w.Cell, p.w.Tol, one, current)
		return v
	}
	if b[0].Hi-b[0].Lo <= 300 {
		var found []int64
		for x := b[0].Lo; x <= b[0].Hi; x++ {
			if _, ok := meeting(volts(x), volt); ok {
				found = append(found, x)
			}
		}
		if len(found) == 0 {
			return api.Span{}, false
		}
		return span(found[0], found[len(found)-1]), true
	}
	count := int(b[0].Hi - b[0].Lo + 1)
	least := b[0].Lo + int64(sort.Search(count, func(i int) bool { return volts(b[0].Lo+int64(i)).Hi >= volt.Lo }))
	greatest := b[0].Lo + int64(sort.Search(count, func(i int) bool { return volts(b[0].Lo+int64(i)).Lo > volt.Hi })) - 1
	return span(least, greatest), least <= greatest
}

// now is the box of now.
func (p *plainWatcher) now() ([]api.Span, api.Errno) {
	b := p.w.Box
	for i := 0; i < p.w.Delay; i++ {
		next, e := cell.StepBox(p.w.Cell, p.w.Tol, b, []api.Span{p.w.Currents, p.w.Ambients})
		if e != api.OK {
			return nil, e
		}
		b = next
	}
	return b, api.OK
}

// health is the health of the box.
func (p *plainWatcher) health() api.Span {
	left := func(offset, through, age int64) int64 {
		capacity := p.w.Cell.Capacity + offset
		wear := new(big.Int).Add(exactDown(product(through, p.w.Cell.CycleLoss), 1<<30), exactDown(product(age, p.w.Cell.AgeLoss), 1<<30))
		rest := max(0, capacity-wear.Int64())
		return exactDown(product(65536, rest), capacity).Int64()
	}
	flow, years := p.w.Box[3], p.w.Box[4]
	return span(left(p.w.Tol[0].Lo, flow.Hi, years.Hi), left(p.w.Tol[0].Hi, flow.Lo, years.Lo))
}

// product returns the exact product of two numbers.
func product(a, b int64) *big.Int { return new(big.Int).Mul(big.NewInt(a), big.NewInt(b)) }

// plainFilter takes readings as the chapter describes it, with numbers of any size.
type plainFilter struct {
	c       api.Cell
	g       api.Gains
	s       api.State
	current int64
	ambient int64
}

// take is what Take has to do.
func (p *plainFilter) take(r api.Reading) api.Errno {
	for i, has := range r.Has {
		if has && (r.Value[i] < -1<<30 || r.Value[i] > 1<<30) {
			return api.ErrRange
		}
	}
	current, ambient, s := p.current, p.ambient, p.s
	if r.Has[api.Current] {
		current = into(big.NewInt(r.Value[api.Current]), -1<<20, 1<<20)
	}
	if r.Has[api.Ambient] {
		ambient = into(big.NewInt(r.Value[api.Ambient]), 0, 400000)
	}
	if r.Has[api.Volt] {
		voltage, _ := cell.Voltage(p.c, p.s, current)
		capacity, _ := cell.Capacity(p.c, p.s)
		charge := exactDown(product(r.Value[api.Volt]-voltage, p.g.Charge), 65536)
		relax := exactDown(product(r.Value[api.Volt]-voltage, p.g.Relax), 65536)
		s.Charge = into(charge.Add(charge, big.NewInt(s.Charge)), 0, capacity)
		s.Relax = into(relax.Sub(big.NewInt(s.Relax), relax), -1<<23, 1<<23)
	}
	if r.Has[api.Temp] {
		heat := exactDown(product(r.Value[api.Temp]-s.Temp, p.g.Temp), 65536)
		s.Temp = into(heat.Add(heat, big.NewInt(s.Temp)), 0, 400000)
	}
	s, e := cell.Step(p.c, s, api.Input{Current: current, Ambient: ambient})
	if e != api.OK {
		return e
	}
	p.s, p.current, p.ambient = s, current, ambient
	return api.OK
}
