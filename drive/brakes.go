package drive

import (
	"iter"

	"coulomb/api"
)

// wheels are the greatest torques of some wheels.
type wheels []int64

// Blend returns the electric torque, and that of the friction brake. (P6.12)
func Blend(demand int64, electric api.Span, brake int64) (int64, int64, api.Errno) {
	if !areUpTo(api.MaxTorque, demand, electric.Lo, electric.Hi) || !isFrom(brake, 0, api.MaxTorque) {
		return 0, 0, api.ErrRange
	}
	if electric.Lo > 0 || electric.Hi < 0 {
		return 0, 0, api.ErrArg
	}
	torque := bring(demand, electric.Lo, electric.Hi)
	return torque, bring(torque-demand, 0, brake), api.OK
}

// Shares returns the shares of a total. (P6.12)
func Shares(total int64, most []int64) ([]int64, api.Errno) {
	if !isFrom(int64(len(most)), 1, api.MaxWheels) {
		return nil, api.ErrMany
	}
	for _, x := range append([]int64{total}, most...) {
		if !isFrom(x, 0, api.MaxTorque) {
			return nil, api.ErrRange
		}
	}
	w := wheels(most)
	shares := w.upTo(w.level(total))
	rest := total - sumOf(shares)
	for i := range w.above(shares) {
		if rest == 0 {
			break
		}
		shares[i]++
		rest--
	}
	return shares, api.OK
}

// level returns the greatest level up to which the wheels can be filled with a total, or MaxTorque, if that fills all of them.
func (w wheels) level(total int64) int64 {
	lo, hi := int64(0), int64(api.MaxTorque)
	for lo < hi {
		middle := hi - (hi-lo)/2
		if sumOf(w.upTo(middle)) <= total {
			lo = middle
		} else {
			hi = middle - 1
		}
	}
	return lo
}

// upTo returns what each wheel gets if it is filled up to a level.
func (w wheels) upTo(level int64) []int64 {
	shares := make([]int64, len(w))
	for i, most := range w {
		shares[i] = min(level, most)
	}
	return shares
}

// above yields the wheels that can have more than their shares.
func (w wheels) above(shares []int64) iter.Seq[int] {
	return func(yield func(int) bool) {
		for i, most := range w {
			if shares[i] < most && !yield(i) {
				return
			}
		}
	}
}

// sumOf returns the sum of some numbers.
func sumOf(numbers []int64) int64 {
	sum := int64(0)
	for _, x := range numbers {
		sum += x
	}
	return sum
}
