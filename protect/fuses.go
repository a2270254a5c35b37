package protect

import "coulomb/api"

// maxFuse is the greatest current of a fuse, in amount.
const maxFuse = 1 << 20

// Melts returns when a fuse melts. (P5.4)
func Melts(f api.Fuse, currents []int64) (int, bool, api.Errno) {
	if !allFrom(0, maxFuse, f.Rating) || !allFrom(1, api.MaxQuantity, f.Melt) {
		return 0, false, api.ErrArg
	}
	if len(currents) > api.MaxMoments {
		return 0, false, api.ErrMany
	}
	if !allFrom(-maxFuse, maxFuse, currents...) {
		return 0, false, api.ErrRange
	}
	heat := int64(0)
	for i, x := range currents {
		heat = max(0, heat+x*x-f.Rating*f.Rating)
		if heat >= f.Melt {
			return i, true, api.OK
		}
	}
	return 0, false, api.OK
}
