package quantity_test

import (
	"math/big"
	"testing"

	"coulomb/api"
	"coulomb/quantity"
)

// rounding is one of the three functions, and what it has to return.
type rounding struct {
	name string
	call func(x, num, den int64) (int64, api.Errno)
	want func(x *big.Rat) *big.Int
}

func roundings() []rounding {
	return []rounding{
		{"Floor", quantity.Floor, down},
		{"Ceil", quantity.Ceil, up},
		{"Round", quantity.Round, func(x *big.Rat) *big.Int {
			return down(new(big.Rat).Add(x, big.NewRat(1, 2)))
		}},
	}
}

// P1.1: the examples, halves, and numbers around the limits.
func TestRoundingCases(t *testing.T) {
	const third = 733007751851 // 3 / 2 of it is a half more than the greatest quantity
	over := numberResult{0, api.ErrOver}
	for _, x := range []struct {
		x, num, den        int64
		floor, ceil, round numberResult
	}{
		{-7, 1, 2, numberResult{-4, 0}, numberResult{-3, 0}, numberResult{-3, 0}},
		{7, 1, 2, numberResult{3, 0}, numberResult{4, 0}, numberResult{4, 0}},
		{1, 1, 3, numberResult{0, 0}, numberResult{1, 0}, numberResult{0, 0}},
		{2, 1, 3, numberResult{0, 0}, numberResult{1, 0}, numberResult{1, 0}},
		{-1, 1, 3, numberResult{-1, 0}, numberResult{0, 0}, numberResult{0, 0}},
		{-2, 1, 3, numberResult{-1, 0}, numberResult{0, 0}, numberResult{-1, 0}},
		{1, 1, 2, numberResult{0, 0}, numberResult{1, 0}, numberResult{1, 0}},
		{1, -1, 2, numberResult{-1, 0}, numberResult{0, 0}, numberResult{0, 0}},
		{-3, -5, 2, numberResult{7, 0}, numberResult{8, 0}, numberResult{8, 0}},
		{6, -1, 3, numberResult{-2, 0}, numberResult{-2, 0}, numberResult{-2, 0}},
		{0, -5, 7, numberResult{0, 0}, numberResult{0, 0}, numberResult{0, 0}},
		{most, most, most, numberResult{most, 0}, numberResult{most, 0}, numberResult{most, 0}},
		{least, most, most, numberResult{least, 0}, numberResult{least, 0}, numberResult{least, 0}},
		{least, least, most, numberResult{most, 0}, numberResult{most, 0}, numberResult{most, 0}},
		{most, 2, 1, over, over, over},
		{least, 2, 1, over, over, over},
		{most, most, 1, over, over, over},
		{least, most, 1, over, over, over},
		{1 << 32, 1 << 32, 1, over, over, over},
		{1 << 33, 1 << 32, 2, over, over, over},
		{third, 3, 2, numberResult{most, 0}, over, over},
		{-third, 3, 2, over, numberResult{least, 0}, numberResult{least, 0}},
	} {
		for i, want := range []numberResult{x.floor, x.ceil, x.round} {
			f := roundings()[i]
			if got := numberOf(f.call(x.x, x.num, x.den)); got != want {
				t.Errorf("%s(%d, %d, %d): %v, want %v", f.name, x.x, x.num, x.den, got, want)
			}
		}
	}
}

// P1.1: all small numbers, and all edge numbers, against exact fractions.
func TestRoundingExact(t *testing.T) {
	check := func(x, num, den int64) {
		for _, f := range roundings() {
			if got, want := numberOf(f.call(x, num, den)), number(f.want(exact(x, num, den))); got != want {
				t.Errorf("%s(%d, %d, %d): %v, want %v", f.name, x, num, den, got, want)
			}
		}
	}
	for x := int64(-12); x <= 12; x++ {
		for num := int64(-4); num <= 4; num++ {
			for den := int64(1); den <= 7; den++ {
				check(x, num, den)
			}
		}
	}
	for _, x := range edgeNumbers() {
		for _, num := range edgeNumbers() {
			for _, den := range edgeDivisors() {
				check(x, num, den)
			}
		}
	}
	r := chance(1)
	for range 20000 {
		check(drawNumber(r), drawNumber(r), max(1, drawNumber(r)))
	}
}

// P1.1: each argument that is not possible.
func TestRoundingArguments(t *testing.T) {
	want := numberResult{0, api.ErrArg}
	for _, f := range roundings() {
		for _, x := range wildNumbers() {
			if got := numberOf(f.call(x, 1, 1)); got != want {
				t.Errorf("%s with x %d: %v", f.name, x, got)
			}
			if got := numberOf(f.call(0, x, 1)); got != want {
				t.Errorf("%s with num %d: %v", f.name, x, got)
			}
		}
		for _, den := range wildDivisors() {
			if got := numberOf(f.call(0, 0, den)); got != want {
				t.Errorf("%s with den %d: %v", f.name, den, got)
			}
		}
		if got := numberOf(f.call(most, most, 0)); got != want {
			t.Errorf("%s of a great number by 0: %v", f.name, got)
		}
	}
}
