package pack

import (
	"coulomb/api"
	"coulomb/cell"
)

// Safe reports whether a current is safe. (P4.4)
func Safe(p api.Pack, s [][]api.State, lim api.Limits, in api.Input) (bool, api.Errno) {
	if e := checkLimits(p, s, lim); e != api.OK {
		return false, e
	}
	if !isInput(in) {
		return false, api.ErrRange
	}
	parts, _, e := share(p, s, in.Current)
	if e != api.OK {
		return false, e
	}
	return isFrom(in.Current, -lim.In, lim.Out) && areSafe(parts, safeSpans(p, s, lim, in.Ambient)), api.OK
}

// MostOut returns the greatest safe current. (P4.4)
func MostOut(p api.Pack, s [][]api.State, lim api.Limits, ambient int64) (int64, api.Errno) {
	if e := checkLimits(p, s, lim); e != api.OK {
		return 0, e
	}
	if !isFrom(ambient, 0, api.MaxTemp) {
		return 0, api.ErrRange
	}
	groups, safe := wire(p, s), safeSpans(p, s, lim, ambient)
	// For a greater current no cell gets less. So the currents with which no cell gives too much end somewhere; and if with the last of them a cell gets too much, this is so with all of them.
	most := first(-1, lim.Out+1, func(current int64) bool {
		parts, _ := splitAll(groups, current)
		return isAnyAbove(parts, safe)
	}) - 1
	if most < 0 {
		return 0, api.ErrLimit
	}
	if parts, _ := splitAll(groups, most); !areSafe(parts, safe) {
		return 0, api.ErrLimit
	}
	return most, api.OK
}

// checkLimits returns the errors of a pack, of states, and of limits.
func checkLimits(p api.Pack, s [][]api.State, lim api.Limits) api.Errno {
	if e := CheckStates(p, s); e != api.OK {
		return e
	}
	// Layer 2 knows what limits are possible: of a valid cell, in a valid state, ErrArg is that of the limits.
	if _, e := cell.MostOut(p.Groups[0][0], s[0][0], lim, 0); e == api.ErrArg {
		return e
	}
	return api.OK
}

// safeSpans returns for each cell of a pack which currents are safe.
func safeSpans(p api.Pack, s [][]api.State, lim api.Limits, ambient int64) [][]api.Span {
	lim.Out, lim.In = api.MaxCurrent, api.MaxCurrent // those of the limits are for the pack, not for a cell
	spans := make([][]api.Span, len(s))
	for i, cells := range p.Groups {
		spans[i] = make([]api.Span, len(cells))
		for k, c := range cells {
			spans[i][k] = safeSpan(c, s[i][k], lim, ambient)
		}
	}
	return spans
}

// safeSpan returns which currents are safe for a cell: those from 0 on up to the greatest one out of it, and those below 0 down to the greatest one into it, as each lesser one is safe, too. The Lo of a span without any is greater than its Hi.
func safeSpan(c api.Cell, s api.State, lim api.Limits, ambient int64) api.Span {
	span := api.Span{Lo: 0, Hi: -1}
	if out, e := cell.MostOut(c, s, lim, ambient); e == api.OK {
		span.Hi = out
	}
	if in, e := cell.MostIn(c, s, lim, ambient); e == api.OK {
		span.Lo = -in
	}
	return span
}

// areSafe reports whether the currents of all cells are safe.
func areSafe(parts [][]int64, safe [][]api.Span) bool {
	return !isAny(parts, safe, func(x int64, span api.Span) bool { return !isFrom(x, span.Lo, span.Hi) })
}

// isAnyAbove reports whether a cell gives more than is safe.
func isAnyAbove(parts [][]int64, safe [][]api.Span) bool {
	return isAny(parts, safe, func(x int64, span api.Span) bool { return x > span.Hi })
}

// isAny reports whether something is so for the current of a cell, and its safe ones.
func isAny(parts [][]int64, safe [][]api.Span, is func(x int64, span api.Span) bool) bool {
	for i := range parts {
		for k, x := range parts[i] {
			if is(x, safe[i][k]) {
				return true
			}
		}
	}
	return false
}
