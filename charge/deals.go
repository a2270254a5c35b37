package charge

import (
	"slices"

	"coulomb/api"
	"coulomb/passport"
)

// prime is that of the field of proofs, FieldLarge; a number in a proof is at most as great.
const prime = 1<<31 - 1

// The limits of a deal.
const (
	mostPads  = 5000
	mostEvery = 1000
)

// CheckDeal reports whether a deal is valid. (P9.2)
func CheckDeal(d api.Deal) api.Errno { return checked(isDeal(d)) }

// Proof returns the proof of a contract. (P9.2)
func Proof(c api.Contract, contract, number int) (uint64, api.Errno) {
	if !isContract(c) {
		return 0, api.ErrArg
	}
	if !isFrom(int64(contract), 0, prime) || !isFrom(int64(number), 0, prime) {
		return 0, api.ErrRange
	}
	if number >= len(c.Pads) {
		return 0, api.ErrOver
	}
	return proofOf(c, plug{contract, number})
}

// plug is a plug, by its contract and its number.
type plug struct{ contract, number int }

// proofOf returns the proof for a plug for which there is a pad.
func proofOf(c api.Contract, p plug) (uint64, api.Errno) {
	message := appendNumber(appendNumber(nil, p.contract), p.number)
	return passport.Tag(api.FieldLarge, c.Point, c.Pads[p.number], message)
}

// appendNumber appends the 4 bytes of a number, the most significant one first.
func appendNumber(l []byte, n int) []byte {
	return append(l, byte(n>>24), byte(n>>16), byte(n>>8), byte(n))
}

// isDeal reports whether a deal is valid.
func isDeal(d api.Deal) bool {
	isNone := func(c api.Contract) bool { return !isContract(c) }
	return isTariff(d.Tariff) && 1 <= len(d.Contracts) && len(d.Contracts) <= api.MaxContracts && !slices.ContainsFunc(d.Contracts, isNone) &&
		isFrom(d.Credit, 0, api.MaxQuantity) && isFrom(int64(d.Every), 1, mostEvery) && isFrom(int64(d.Slack), 1, api.MaxSlack) && isPower(d.Draw) && isPower(d.Back)
}

// isContract reports whether a contract is valid.
func isContract(c api.Contract) bool {
	isNone := func(pad uint64) bool { return pad >= prime }
	return 0 < c.Point && c.Point < prime && len(c.Pads) <= mostPads && !slices.ContainsFunc(c.Pads, isNone)
}

// cloneDeal returns a deal that shares no memory with another one.
func cloneDeal(d api.Deal) api.Deal {
	d.Tariff.Bands, d.Contracts = slices.Clone(d.Tariff.Bands), slices.Clone(d.Contracts)
	for i, c := range d.Contracts {
		d.Contracts[i].Pads = slices.Clone(c.Pads)
	}
	return d
}
