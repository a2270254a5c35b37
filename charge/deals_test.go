package charge_test

import (
	"math"
	"math/big"
	"slices"
	"testing"

	"coulomb/api"
	"coulomb/charge"
	"coulomb/passport"
)

// validDeals are deals at the limits.
func validDeals() []api.Deal {
	l := []api.Deal{
		deal(),
		deal(contracts(0)),
		deal(contracts(mostPads)),
		deal(contracts(make([]int, mostContracts)...)),
		deal(credit(0)), deal(credit(quantities)),
		deal(every(1)), deal(every(mostEvery)),
		deal(slack(1)), deal(slack(mostSlack)),
		deal(limits(0, 0)), deal(limits(mostPower, mostPower)), deal(limits(0, mostPower)), deal(limits(mostPower, 0)),
	}
	for _, c := range validContracts() {
		l = append(l, deal(func(d *api.Deal) { d.Contracts = []api.Contract{contract(5, 3), c} }))
	}
	for _, x := range validTariffs() {
		l = append(l, deal(prices(x)))
	}
	return l
}

// validContracts are contracts at the limits.
func validContracts() []api.Contract {
	return []api.Contract{{Point: 1}, {Point: prime - 1, Pads: []uint64{0, prime - 1}}, contract(12345, mostPads), {Point: 1, Pads: []uint64{}}}
}

// wildContracts are no valid contracts.
func wildContracts() []api.Contract {
	l := []api.Contract{contract(5, mostPads+1), contract(5, 10000)}
	for _, x := range []uint64{0, prime, prime + 1, 1 << 32, 1<<32 + 5, 1 << 63, math.MaxUint64} {
		l = append(l, contract(x, 3))
		if x > 0 {
			l = append(l, api.Contract{Point: 5, Pads: []uint64{x}}, api.Contract{Point: 5, Pads: []uint64{1, 2, x}}, api.Contract{Point: 5, Pads: []uint64{x, 1, 2}})
		}
	}
	return l
}

// wildDeals are no valid deals.
func wildDeals() []api.Deal {
	l := []api.Deal{{}, deal(contracts()), deal(contracts(make([]int, mostContracts+1)...)), deal(contracts(make([]int, 200)...)), deal(every(0)), deal(slack(0))}
	for _, x := range wildNumbers() {
		l = append(l, deal(credit(x)), deal(every(int(x))), deal(slack(int(x))), deal(limits(x, 1)), deal(limits(1, x)))
	}
	for _, x := range []int64{mostPower + 1, 1 << 31, 1 << 32} {
		l = append(l, deal(every(int(x))), deal(slack(int(x))), deal(limits(x, 1)), deal(limits(1, x)))
	}
	for _, c := range wildContracts() {
		l = append(l, deal(func(d *api.Deal) { d.Contracts = []api.Contract{c} }), deal(func(d *api.Deal) { d.Contracts = []api.Contract{contract(5, 3), c, contract(5, 3)} }))
	}
	for _, x := range wildTariffs() {
		l = append(l, deal(prices(x)))
	}
	return append(l, deal(every(mostEvery+1)), deal(slack(mostSlack+1)))
}

// P9.2: which deals are valid.
func TestCheckDeal(t *testing.T) {
	for i, d := range validDeals() {
		same(t, charge.CheckDeal(d), api.OK, "CheckDeal", i)
	}
	for i, d := range wildDeals() {
		same(t, charge.CheckDeal(d), api.ErrArg, "CheckDeal", i, d.Tariff, d.Credit, d.Every, d.Slack, d.Draw, d.Back)
		if n, e := charge.NewNet(d); n != nil || e != api.ErrArg {
			t.Errorf("NewNet with the deal %d that is not valid: %v, %d", i, n, e)
		}
	}
}

// P9.2: proofs that were computed by hand.
func TestExamplesOfProofs(t *testing.T) {
	for _, x := range []struct {
		point, pad       uint64
		contract, number int
		want             uint64
	}{
		{1, 0, 0, 0, 1 + 1},               // the words 1, 0, 0, 1
		{1, 5, 0, 0, 7},                   // and the pad
		{1, prime - 1, 0, 0, 1},           //
		{2, 0, 0, 0, 1<<4 + 1<<1},         // 1 x^4 + 1 x
		{2, 0, 1, 0, 1<<4 + 65536<<2 + 2}, // the bytes 0 0 0, 1 0 0, 0 0 1
		{2, 3, 256, 0, 1<<4 + 1<<3 + 2 + 3},
	} {
		c := api.Contract{Point: x.point, Pads: []uint64{x.pad}}
		same(t, answerOf(charge.Proof(c, x.contract, x.number)), good(x.want), "Proof", x)
	}
	c := api.Contract{Point: 2, Pads: slices.Repeat([]uint64{0}, 300)}
	same(t, answerOf(charge.Proof(c, 0, 1)), good[uint64](1<<4+(1<<8+1)<<1), "Proof of the number 1") // the last word has the bytes 0 1 1
	same(t, answerOf(charge.Proof(c, 0, 256)), good[uint64](1<<4+(1<<16+1)<<1), "Proof of the number 256")
}

// P9.2: proofs are tags of 8 bytes.
func TestProof(t *testing.T) {
	r := chance(2)
	for _, c := range append(validContracts(), contract(987654321, 300), contract(5, 256), contract(prime-1, mostPads)) {
		for range 60 {
			contract, number := int(drawFrom(r, 0, prime)), r.Intn(len(c.Pads)+1)
			if number == len(c.Pads) {
				same(t, answerOf(charge.Proof(c, contract, number)), bad[uint64](api.ErrOver), "Proof", contract, number)
				continue
			}
			p := proofOf(c, contract, number)
			same(t, answerOf(charge.Proof(c, contract, number)), good(p), "Proof", c.Point, contract, number)
			message := []byte{byte(contract >> 24), byte(contract >> 16), byte(contract >> 8), byte(contract), byte(number >> 24), byte(number >> 16), byte(number >> 8), byte(number)}
			same(t, answerOf(passport.Tag(api.FieldLarge, c.Point, c.Pads[number], message)), good(p), "Tag", message)
		}
	}
}

// P9.2: the errors of Proof, in their order.
func TestErrorsOfProof(t *testing.T) {
	c := contract(11, 4)
	for _, x := range []int64{-1, -2, math.MinInt64, -1 << 32, 1 << 31, 1<<31 + 1, 1 << 32, 1 << 62, math.MaxInt64} {
		same(t, answerOf(charge.Proof(c, int(x), 1)), bad[uint64](api.ErrRange), "Proof", x, 1)
		same(t, answerOf(charge.Proof(c, 1, int(x))), bad[uint64](api.ErrRange), "Proof", 1, x)
		same(t, answerOf(charge.Proof(c, int(x), 4)), bad[uint64](api.ErrRange), "Proof", x, 4)
		for _, w := range wildContracts() {
			same(t, answerOf(charge.Proof(w, int(x), 1)), bad[uint64](api.ErrArg), "Proof of a contract that is not valid", x)
			same(t, answerOf(charge.Proof(w, 1, int(x))), bad[uint64](api.ErrArg), "Proof of a contract that is not valid", x)
		}
	}
	for _, number := range []int{4, 5, 5000, prime - 1, prime} {
		same(t, answerOf(charge.Proof(c, 1, number)), bad[uint64](api.ErrOver), "Proof", 1, number)
		same(t, answerOf(charge.Proof(c, prime, number)), bad[uint64](api.ErrOver), "Proof", prime, number)
	}
	for _, w := range wildContracts() {
		same(t, answerOf(charge.Proof(w, 1, 1)), bad[uint64](api.ErrArg), "Proof of a contract that is not valid")
	}
	same(t, answerOf(charge.Proof(contract(11, 0), 0, 0)), bad[uint64](api.ErrOver), "Proof without pads")
	same(t, answerOf(charge.Proof(c, prime, 3)), good(proofOf(c, prime, 3)), "Proof", prime, 3)
}

// last is a contract whose proof for its plug 0 is the greatest one, so that a wrong proof is 0.
func last(index int) api.Contract {
	c := api.Contract{Point: 12345}
	pad := new(big.Int).Sub(big.NewInt(prime-1), digestOf(c.Point, index, 0))
	c.Pads = []uint64{pad.Mod(pad, big.NewInt(prime)).Uint64(), 5}
	return c
}

// P9.2: the greatest proof.
func TestGreatestProof(t *testing.T) {
	same(t, answerOf(charge.Proof(last(0), 0, 0)), good[uint64](prime-1), "Proof")
	same(t, answerOf(charge.Proof(last(3), 3, 0)), good[uint64](prime-1), "Proof")
}
