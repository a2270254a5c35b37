package charge_test

import (
	"math"
	"math/big"
	"math/rand"
	"slices"
	"testing"

	"coulomb/api"
	"coulomb/charge"
)

// The limits that the chapter names.
const (
	mostTime      = 1 << 40
	quantities    = 1 << 40
	mostBands     = 48
	mostRate      = 1 << 20
	wattHour      = 3600000
	mostNotes     = 64
	mostStations  = 32
	mostLeases    = 64
	longest       = 100000 // ticks of a lease
	mostPower     = 1 << 30
	mostContracts = 16
	mostPads      = 5000
	mostEvery     = 1000
	mostSlack     = 20
	mostFlight    = 200
	mostRounds    = 2000
	prime         = 2147483647
)

// The lines of a net, by who tells whom.
const (
	toStation    = 0 // by the vehicle
	toVehicle    = 1
	toOperator   = 2 // by the station
	backStation  = 3 // to the station, by the operator
	toPayer      = 4
	backOperator = 5 // to the operator, by the payer
)

// change changes a value that is made.
type change[T any] func(x *T)

// with returns a value that is changed.
func with[T any](x T, changes ...change[T]) T {
	for _, c := range changes {
		c(&x)
	}
	return x
}

// tariff is that of the chapter's examples, changed.
func tariff(changes ...change[api.Tariff]) api.Tariff {
	return with(api.Tariff{Day: 100, Bands: []api.Band{{From: 0, In: 36, Back: 18}, {From: 50, In: 72, Back: 0}}, Fee: 10}, changes...)
}

// bands changes the bands of a tariff.
func bands(l ...api.Band) change[api.Tariff] { return func(t *api.Tariff) { t.Bands = l } }

// flat is a tariff with one band.
func flat(in, back, fee int64) api.Tariff {
	return api.Tariff{Day: 1, Bands: []api.Band{{In: in, Back: back}}, Fee: fee}
}

// manyBands are n bands, one behind the other.
func manyBands(n int) []api.Band {
	l := make([]api.Band, n)
	for i := range l {
		l[i] = api.Band{From: int64(i), In: int64(i + 1), Back: int64(2 * i)}
	}
	return l
}

// contract is a contract with n pads.
func contract(point uint64, n int) api.Contract {
	c := api.Contract{Point: point}
	for i := range n {
		c.Pads = append(c.Pads, uint64(i*i+7)*1000003%prime)
	}
	return c
}

// deal is that of the chapter's examples, changed.
func deal(changes ...change[api.Deal]) api.Deal {
	return with(api.Deal{Tariff: tariff(), Contracts: []api.Contract{contract(11, 4)}, Credit: 1000, Every: 2, Slack: 3, Draw: 100, Back: 100}, changes...)
}

// contracts changes the contracts of a deal: they have as many pads as is said.
func contracts(pads ...int) change[api.Deal] {
	return func(d *api.Deal) {
		d.Contracts = nil
		for i, n := range pads {
			d.Contracts = append(d.Contracts, contract(uint64(1000003*i+11), n))
		}
	}
}

// every and slack change when records are told, and how many may be without an answer.
func every(n int) change[api.Deal] { return func(d *api.Deal) { d.Every = n } }
func slack(n int) change[api.Deal] { return func(d *api.Deal) { d.Slack = n } }

// credit changes how much may be owed.
func credit(n int64) change[api.Deal] { return func(d *api.Deal) { d.Credit = n } }

// prices changes the tariff of a deal.
func prices(t api.Tariff) change[api.Deal] { return func(d *api.Deal) { d.Tariff = t } }

// limits changes the limits of the site of a deal.
func limits(draw, back int64) change[api.Deal] {
	return func(d *api.Deal) { d.Draw, d.Back = draw, back }
}

// digestOf is the digest of a message of 8 bytes in the large field, with sums of any size.
func digestOf(point uint64, contract, number int) *big.Int {
	var message []byte
	for _, n := range []int{contract, number} {
		message = append(message, byte(n>>24), byte(n>>16), byte(n>>8), byte(n))
	}
	message = append(message, 1)
	sum := new(big.Int)
	words := []int64{1}
	for i := 0; i < len(message); i += 3 {
		words = append(words, int64(message[i])<<16|int64(message[i+1])<<8|int64(message[i+2]))
	}
	x := new(big.Int).SetUint64(point)
	for i, w := range words {
		power := new(big.Int).Exp(x, big.NewInt(int64(len(words)-i)), nil)
		sum.Add(sum, power.Mul(power, big.NewInt(w)))
	}
	return sum
}

// proofOf is the proof for a plug for which there is a pad.
func proofOf(c api.Contract, contract, number int) uint64 {
	sum := digestOf(c.Point, contract, number)
	sum.Add(sum, new(big.Int).SetUint64(c.Pads[number]))
	return sum.Mod(sum, big.NewInt(prime)).Uint64()
}

// wildNumbers are beyond every limit.
func wildNumbers() []int64 {
	return []int64{math.MinInt64, math.MinInt64 + 1, -1 << 62, -1 << 41, -1 << 32, -1, quantities + 1, 1 << 41, 1 << 62, math.MaxInt64 - 1, math.MaxInt64}
}

// wildIndexes are the indexes of none of n things.
func wildIndexes(n int) []int {
	l := []int{-1, -2, n, n + 1, 1 << 8, 1 << 16, 1 << 32, -1 << 32, math.MinInt, math.MaxInt}
	return slices.DeleteFunc(l, func(i int) bool { return 0 <= i && i < n })
}

// same checks that a call returns what is wanted.
func same[T comparable](t *testing.T, got, want T, call string, arguments ...any) {
	t.Helper()
	if got != want {
		t.Errorf("%s %v: %v, not %v", call, arguments, got, want)
	}
}

// sameList checks that a call returns the list that is wanted.
func sameList[T comparable](t *testing.T, got, want []T, call string, arguments ...any) {
	t.Helper()
	if !slices.Equal(got, want) {
		t.Errorf("%s %v: %v, not %v", call, arguments, got, want)
	}
}

// answer is what a function returns that has one other result than an error.
type answer[T any] struct {
	x T
	e api.Errno
}

func answerOf[T any](x T, e api.Errno) answer[T] { return answer[T]{x, e} }
func good[T any](x T) answer[T]                  { return answer[T]{x: x} }
func bad[T any](e api.Errno) answer[T]           { return answer[T]{e: e} }

// two are two results, and an error.
type two struct {
	a, b int64
	e    api.Errno
}

func twoOf(a, b int64, e api.Errno) two { return two{a, b, e} }

// poll is what Poll returns, and got what Receive does.
type poll struct {
	p   api.Packet
	has bool
}
type got struct {
	n       api.Note
	arrived bool
}

func pollOf(p api.Packet, has bool) poll { return poll{p, has} }
func gotOf(n api.Note, arrived bool) got { return got{n, arrived} }

// newSite returns a site.
func newSite(t *testing.T, stations int, draw, back int64) *charge.Site {
	t.Helper()
	s, e := charge.NewSite(stations, draw, back)
	if e != api.OK || s == nil {
		t.Fatalf("NewSite %d, %d, %d: %v, %d", stations, draw, back, s, e)
	}
	return s
}

// newNet returns a net.
func newNet(t *testing.T, d api.Deal) *charge.Net {
	t.Helper()
	n, e := charge.NewNet(d)
	if e != api.OK || n == nil {
		t.Fatalf("NewNet: %v, %d", n, e)
	}
	return n
}

// chance draws the same numbers in each run.
func chance(seed int64) *rand.Rand { return rand.New(rand.NewSource(seed)) }

// pick draws one of some values.
func pick[T any](r *rand.Rand, l ...T) T { return l[r.Intn(len(l))] }

// drawInt draws a number from lo to hi.
func drawInt(r *rand.Rand, lo, hi int64) int64 { return lo + r.Int63n(hi-lo+1) }

// drawFrom draws a number from lo to hi: an end, one near to the lower end, one of a size that is drawn first, or any one.
func drawFrom(r *rand.Rand, lo, hi int64) int64 {
	size := int64(1) << r.Intn(42)
	return min(hi, pick(r, lo, hi, lo+drawInt(r, 0, 3), lo+drawInt(r, 0, size), drawInt(r, lo, hi)))
}

// drawAny draws a value, mostly the good one.
func drawAny[T any](r *rand.Rand, good T, wild ...T) T {
	if r.Intn(8) > 0 {
		return good
	}
	return pick(r, wild...)
}

// drawNote draws any note.
func drawNote(r *rand.Rand) api.Note {
	return api.Note{Kind: r.Intn(17), Session: r.Intn(9) - 1, A: drawFrom(r, -5, mostTime), B: drawFrom(r, -5, mostTime), C: drawFrom(r, -5, mostTime)}
}
