package charge

import "coulomb/api"

// CheckTariff reports whether a tariff is valid. (P9.1)
func CheckTariff(t api.Tariff) api.Errno { return checked(isTariff(t)) }

// Price returns the prices at a time. (P9.1)
func Price(t api.Tariff, at int64) (int64, int64, api.Errno) {
	if !isTariff(t) {
		return 0, 0, api.ErrArg
	}
	if !isTime(at) {
		return 0, 0, api.ErrRange
	}
	b := bandAt(t, at)
	return b.In, b.Back, api.OK
}

// Cost returns the cost of energy. (P9.1)
func Cost(t api.Tariff, at, in, back int64) (int64, api.Errno) {
	if !isTariff(t) {
		return 0, api.ErrArg
	}
	if !isTime(at) || !isFrom(in, 0, api.MaxQuantity) || !isFrom(back, 0, api.MaxQuantity) {
		return 0, api.ErrRange
	}
	return costAt(t, at, energy{in, back}), api.OK
}

// isTariff reports whether a tariff is valid.
func isTariff(t api.Tariff) bool {
	if !isFrom(t.Day, 1, api.MaxTime) || !isRate(t.Fee) || len(t.Bands) < 1 || len(t.Bands) > api.MaxBands {
		return false
	}
	least := int64(0)
	for i, b := range t.Bands {
		if b.From < least || i == 0 && b.From > 0 || b.From >= t.Day || !isRate(b.In) || !isRate(b.Back) {
			return false
		}
		least = b.From + 1
	}
	return true
}

// isRate reports whether a number is a price, or a fee.
func isRate(x int64) bool { return isFrom(x, 0, api.MaxRate) }

// bandAt returns the band of a valid tariff at a time.
func bandAt(t api.Tariff, at int64) api.Band {
	found := t.Bands[0]
	for _, b := range t.Bands[1:] {
		if b.From <= at%t.Day {
			found = b
		}
	}
	return found
}

// costAt returns the cost of energy at a time: each of its parts is rounded for itself.
func costAt(t api.Tariff, at int64, e energy) int64 {
	b := bandAt(t, at)
	return e.in*b.In/api.WattHour - e.back*b.Back/api.WattHour
}
