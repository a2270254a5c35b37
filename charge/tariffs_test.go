package charge_test

import (
	"math/big"
	"math/rand"
	"testing"

	"coulomb/api"
	"coulomb/charge"
)

// floorOf is the quotient of a product and a watt hour, rounded down.
func floorOf(a, b int64) int64 {
	x := new(big.Int).Mul(big.NewInt(a), big.NewInt(b))
	return x.Div(x, big.NewInt(wattHour)).Int64()
}

// bandOf is the band of a tariff at a time.
func bandOf(t api.Tariff, at int64) api.Band {
	for i := len(t.Bands) - 1; i > 0; i-- {
		if t.Bands[i].From <= at%t.Day {
			return t.Bands[i]
		}
	}
	return t.Bands[0]
}

// costOf is the cost of energy.
func costOf(t api.Tariff, at, in, back int64) int64 {
	b := bandOf(t, at)
	return floorOf(in, b.In) - floorOf(back, b.Back)
}

// validTariffs are tariffs at the limits.
func validTariffs() []api.Tariff {
	return []api.Tariff{
		tariff(),
		flat(0, 0, 0),
		flat(mostRate, mostRate, mostRate),
		{Day: mostTime, Bands: []api.Band{{}, {From: mostTime - 1, In: 1}}},
		{Day: mostTime, Bands: []api.Band{{In: 5}}, Fee: 1},
		{Day: 2, Bands: []api.Band{{In: 5}, {From: 1, In: 7}}},
		{Day: mostBands, Bands: manyBands(mostBands)},
		{Day: 5000, Bands: manyBands(mostBands), Fee: mostRate},
	}
}

// wildTariffs are no valid tariffs.
func wildTariffs() []api.Tariff {
	l := []api.Tariff{
		{},
		tariff(bands()),
		tariff(bands([]api.Band{}...)),
		tariff(bands(api.Band{From: 1, In: 5})),
		tariff(bands(api.Band{From: -1, In: 5})),
		tariff(bands(api.Band{From: -1}, api.Band{})),
		tariff(bands(api.Band{}, api.Band{})),
		tariff(bands(api.Band{}, api.Band{From: 5}, api.Band{From: 5})),
		tariff(bands(api.Band{}, api.Band{From: 5}, api.Band{From: 4})),
		tariff(bands(api.Band{}, api.Band{From: 5}, api.Band{From: 4}, api.Band{From: 6})),
		tariff(bands(api.Band{}, api.Band{From: 100})),
		tariff(bands(api.Band{}, api.Band{From: 99}, api.Band{From: 100})),
		tariff(bands(api.Band{}, api.Band{From: 99}, api.Band{From: 101})),
		tariff(bands(api.Band{}, api.Band{From: -1})),
		{Day: 5000, Bands: manyBands(mostBands + 1)},
		{Day: 5000, Bands: manyBands(1000)},
		{Day: mostBands - 1, Bands: manyBands(mostBands)},
		{Day: 1, Bands: manyBands(2)},
	}
	for _, x := range wildNumbers() {
		if x > quantities || x < 0 {
			l = append(l, tariff(func(t *api.Tariff) { t.Day = x }))
		}
		l = append(l, tariff(bands(api.Band{}, api.Band{From: x})), tariff(bands(api.Band{From: x}, api.Band{From: 5})))
	}
	for _, x := range append(wildNumbers(), mostRate+1, 1<<21, 1<<32) {
		l = append(l, tariff(func(t *api.Tariff) { t.Fee = x }), tariff(bands(api.Band{In: x})), tariff(bands(api.Band{Back: x})), tariff(bands(api.Band{}, api.Band{From: 50, In: x})), tariff(bands(api.Band{}, api.Band{From: 50, Back: x}, api.Band{From: 60})))
	}
	return append(l, tariff(func(t *api.Tariff) { t.Day = 0 }), flat(5, 5, -1))
}

// checkTariff checks what Price and Cost return at a time.
func checkTariff(t *testing.T, x api.Tariff, at, in, back int64) {
	t.Helper()
	b := bandOf(x, at)
	same(t, twoOf(charge.Price(x, at)), two{b.In, b.Back, api.OK}, "Price", x, at)
	same(t, answerOf(charge.Cost(x, at, in, back)), good(costOf(x, at, in, back)), "Cost", x, at, in, back)
}

// P9.1: the chapter's examples.
func TestExamplesOfTariffs(t *testing.T) {
	for _, x := range []struct{ at, in, back int64 }{{0, 36, 18}, {49, 36, 18}, {50, 72, 0}, {99, 72, 0}, {100, 36, 18}, {149, 36, 18}, {150, 72, 0}, {mostTime, 72, 0}} {
		same(t, twoOf(charge.Price(tariff(), x.at)), two{x.in, x.back, api.OK}, "Price", x.at)
	}
	for _, x := range []struct{ at, in, back, cost int64 }{{0, 100000, 200000, 0}, {50, 3600000, 0, 72}, {50, 3599999, 0, 71}, {50, 49999, 0, 0}, {50, 50000, 0, 1}, {0, 0, 199999, 0}, {0, 0, 200000, -1}, {0, 99999, 200000, -1}, {0, 199999, 399999, 0}, {0, 0, 3600000, -18}, {50, 0, 3600000, 0}} {
		same(t, answerOf(charge.Cost(tariff(), x.at, x.in, x.back)), good(x.cost), "Cost", x.at, x.in, x.back)
	}
}

// P9.1: which tariffs are valid.
func TestCheckTariff(t *testing.T) {
	for _, x := range validTariffs() {
		same(t, charge.CheckTariff(x), api.OK, "CheckTariff", x)
		for _, at := range []int64{0, 1, 2, 46, 47, 48, 49, 50, 4999, 5000, 5046, 5047, 5048, mostTime - 1, mostTime} {
			checkTariff(t, x, at, 0, 0)
			checkTariff(t, x, at, quantities, 0)
			checkTariff(t, x, at, 0, quantities)
			checkTariff(t, x, at, quantities, quantities)
			checkTariff(t, x, at, 3600000, 3599999)
		}
	}
	for _, x := range wildTariffs() {
		same(t, charge.CheckTariff(x), api.ErrArg, "CheckTariff", x)
		same(t, twoOf(charge.Price(x, 5)), two{e: api.ErrArg}, "Price", x)
		same(t, answerOf(charge.Cost(x, 5, 6, 7)), bad[int64](api.ErrArg), "Cost", x)
	}
}

// P9.1: numbers that are out of their range; that the tariff is not valid comes first.
func TestErrorsOfTariffs(t *testing.T) {
	for _, x := range wildNumbers() {
		same(t, twoOf(charge.Price(tariff(), x)), two{e: api.ErrRange}, "Price", x)
		same(t, twoOf(charge.Price(flat(5, 5, -1), x)), two{e: api.ErrArg}, "Price", x)
		for _, y := range [][3]int64{{x, 1, 1}, {1, x, 1}, {1, 1, x}, {x, x, x}} {
			same(t, answerOf(charge.Cost(tariff(), y[0], y[1], y[2])), bad[int64](api.ErrRange), "Cost", y)
			same(t, answerOf(charge.Cost(flat(5, -1, 5), y[0], y[1], y[2])), bad[int64](api.ErrArg), "Cost", y)
		}
	}
}

// drawTariff draws a valid tariff.
func drawTariff(r *rand.Rand) api.Tariff {
	x := api.Tariff{Day: drawFrom(r, 1, mostTime), Fee: drawFrom(r, 0, mostRate)}
	at := int64(0)
	for range r.Intn(mostBands) + 1 {
		if at >= x.Day {
			break
		}
		x.Bands = append(x.Bands, api.Band{From: at, In: drawFrom(r, 0, mostRate), Back: drawFrom(r, 0, mostRate)})
		at += 1 + drawFrom(r, 0, x.Day/40)
	}
	return x
}

// P9.1: tariffs that are drawn.
func TestDrawnTariffs(t *testing.T) {
	r := chance(1)
	for range 400 {
		x := drawTariff(r)
		same(t, charge.CheckTariff(x), api.OK, "CheckTariff", x)
		for _, b := range x.Bands {
			for _, at := range []int64{b.From - 1, b.From, b.From + x.Day - 1, b.From + x.Day} {
				if at >= 0 && at <= mostTime {
					checkTariff(t, x, at, drawFrom(r, 0, quantities), drawFrom(r, 0, quantities))
				}
			}
		}
		checkTariff(t, x, drawFrom(r, 0, mostTime), drawFrom(r, 0, quantities), drawFrom(r, 0, quantities))
	}
}
