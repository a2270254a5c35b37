package cell

import "coulomb/api"

// Draws are a generator of numbers.
type Draws struct {
	self  *Draws // one that was not made here does not point to itself, and is not valid
	state uint64
}

// New returns a generator with a seed. (P2.12)
func New(seed uint64) *Draws { return newDraws(2*seed + 1) }

// Next draws a number. (P2.12)
func (d *Draws) Next() uint64 {
	if !d.valid() {
		return 0
	}
	d.state ^= d.state << 13
	d.state ^= d.state >> 7
	d.state ^= d.state << 17
	return d.state * 2685821657736338717
}

// Below draws a number from 0 to n - 1. (P2.12)
func (d *Draws) Below(n int) (int, api.Errno) {
	if !d.valid() {
		return 0, api.ErrNil
	}
	if n < 1 {
		return 0, api.ErrArg
	}
	return int((d.Next() >> 32) % uint64(n)), api.OK
}

// Copy returns a generator with the same state. (P2.12)
func (d *Draws) Copy() *Draws {
	if !d.valid() {
		return nil
	}
	return newDraws(d.state)
}

// newDraws returns a generator in a state.
func newDraws(state uint64) *Draws {
	d := &Draws{state: state}
	d.self = d
	return d
}

// valid reports whether a generator was made by a function of this package.
func (d *Draws) valid() bool { return d != nil && d.self == d }
