package estimate

import (
	"coulomb/api"
	"coulomb/quantity"
)

// Fuse returns the fused span of some spans, of which f may be wrong. (P3.2)
func Fuse(l []api.Span, f int) (api.Span, api.Errno) {
	if e := checkFused(l); e != api.OK {
		return api.Span{}, e
	}
	if f < 0 || f >= len(l) {
		return api.Span{}, api.ErrRange
	}
	// The supported numbers begin at the Lo of a span, and end at the Hi of one.
	fused := api.Span{Lo: api.MaxQuantity, Hi: -api.MaxQuantity}
	found := false
	for _, s := range l {
		if len(liars(l, s.Lo)) <= f {
			fused.Lo, found = min(fused.Lo, s.Lo), true
		}
		if len(liars(l, s.Hi)) <= f {
			fused.Hi, found = max(fused.Hi, s.Hi), true
		}
	}
	if !found {
		return api.Span{}, api.ErrNone
	}
	return fused, api.OK
}

// Liars returns which spans do not contain a number. (P3.2)
func Liars(l []api.Span, x int64) ([]int, api.Errno) {
	if e := checkFused(l); e != api.OK {
		return nil, e
	}
	if !isFrom(x, -api.MaxQuantity, api.MaxQuantity) {
		return nil, api.ErrArg
	}
	return liars(l, x), api.OK
}

// checkFused returns the errors of spans that are to be fused.
func checkFused(l []api.Span) api.Errno {
	if len(l) > api.MaxSensors {
		return api.ErrMany
	}
	if len(l) == 0 {
		return api.ErrArg
	}
	for _, s := range l {
		if e := quantity.Check(s); e != api.OK {
			return e
		}
	}
	return api.OK
}

// liars returns the indexes of the spans that do not contain x.
func liars(l []api.Span, x int64) []int {
	var indexes []int
	for i, s := range l {
		if !quantity.Has(s, x) {
			indexes = append(indexes, i)
		}
	}
	return indexes
}
