package cell

import (
	"coulomb/api"
	"coulomb/quantity"
)

// MostOut returns the greatest safe current out of a cell. (P2.7)
func MostOut(c api.Cell, s api.State, lim api.Limits, ambient int64) (int64, api.Errno) {
	if e := checkBounds(c, s, lim, ambient); e != api.OK {
		return 0, e
	}
	return greatestSafe(lim.Out, func(current int64) bool {
		after := next(c, s, api.Input{Current: current, Ambient: ambient})
		return voltage(c, s, current) >= lim.Least && after.Temp <= lim.Hot && s.Charge >= current+c.Leak
	})
}

// MostIn returns the greatest safe current into a cell. (P2.7)
func MostIn(c api.Cell, s api.State, lim api.Limits, ambient int64) (int64, api.Errno) {
	if e := checkBounds(c, s, lim, ambient); e != api.OK {
		return 0, e
	}
	return greatestSafe(lim.In, func(current int64) bool {
		after := next(c, s, api.Input{Current: -current, Ambient: ambient})
		return voltage(c, s, -current) <= lim.Most && after.Temp <= lim.Hot && s.Charge+current-c.Leak <= capacity(c, after)
	})
}

// SafeOut returns the greatest current that is safe for a box. (P2.11)
func SafeOut(c api.Cell, tol, box []api.Span, lim api.Limits, ambient api.Span) (int64, api.Errno) {
	x, e := enclose(c, tol, box)
	if e != api.OK {
		return 0, e
	}
	if !areLimits(lim) || !quantity.Inside(ambient, inputRanges()[1]) {
		return 0, api.ErrArg
	}
	return greatestSafe(lim.Out, func(current int64) bool {
		point := api.Span{Lo: current, Hi: current}
		return x.voltage(point).Lo >= lim.Least && x.temp(point, ambient).Hi <= lim.Hot && x.least.Charge >= current+x.high.Leak
	})
}

// greatestSafe returns the greatest current up to a limit that is safe, or ErrLimit if 0 is not. It halves: with a current that is not safe, no greater one is, as voltages, temperatures and charges just get worse.
func greatestSafe(limit int64, safe func(current int64) bool) (int64, api.Errno) {
	if !safe(0) {
		return 0, api.ErrLimit
	}
	most := int64(0)
	for most < limit {
		middle := most + (limit-most+1)/2
		if safe(middle) {
			most = middle
		} else {
			limit = middle - 1
		}
	}
	return most, api.OK
}

// checkBounds returns the errors of a cell, a state, limits, and an ambient temperature.
func checkBounds(c api.Cell, s api.State, lim api.Limits, ambient int64) api.Errno {
	if e := CheckState(c, s); e != api.OK {
		return e
	}
	if !areLimits(lim) {
		return api.ErrArg
	}
	if !isFrom(ambient, 0, api.MaxTemp) {
		return api.ErrRange
	}
	return api.OK
}

// areLimits reports whether the limits of a cell are possible.
func areLimits(lim api.Limits) bool {
	return isFrom(lim.Least, -api.MaxVolt, api.MaxVolt) && isFrom(lim.Most, -api.MaxVolt, api.MaxVolt) && lim.Least <= lim.Most &&
		isFrom(lim.Out, 0, api.MaxCurrent) && isFrom(lim.In, 0, api.MaxCurrent) && isFrom(lim.Hot, 0, api.MaxTemp)
}
