package depot_test

import (
	"math"
	"math/rand"
	"slices"
	"testing"

	"coulomb/api"
	"coulomb/depot"
)

// edgeNets are valid, and at limits.
func edgeNets() []api.Net {
	most := linked(empty(mostNodes), slices.Repeat([]api.Arc{arc(0, mostNodes-1, mostCap, mostPrice)}, mostArcs)...)
	return []api.Net{
		empty(1), empty(2), empty(mostNodes), example(), most,
		linked(empty(2), arc(0, 1, 0, 0), arc(1, 0, mostCap, -mostPrice), arc(1, 0, mostCap, mostPrice), arc(1, 0, 0, 0)),
		net(mostSupply/2, -mostSupply/2), net(-mostSupply/2, mostSupply/2), net(1, mostSupply/2-1, -mostSupply/4, 0, -mostSupply/4), net(0, 5, -5), net(-5, 0, 0, 0, 5),
	}
}

// wildNets are no valid nets.
func wildNets() []wrong[api.Net] {
	many, none := api.ErrMany, api.ErrArg
	arcs := func(n int, a api.Arc) []api.Arc { return slices.Repeat([]api.Arc{a}, n) }
	l := []wrong[api.Net]{
		{api.Net{}, many}, {api.Net{Supply: []int64{}}, many}, {linked(api.Net{}, arc(0, 1, 1, 1)), many}, {empty(mostNodes + 1), many}, {empty(5000), many},
		{linked(empty(2), arcs(mostArcs+1, arc(0, 1, 1, 1))...), many}, {linked(empty(mostNodes), arcs(9000, arc(0, 1, 1, 1))...), many},
		// ErrMany is before ErrArg
		{net(numbers(mostNodes+1, 1)...), many}, {linked(empty(mostNodes+1), arc(0, 0, -1, 0)), many}, {linked(net(1, 2), arcs(mostArcs+1, arc(0, 1, 1, 1))...), many}, {linked(empty(2), arcs(mostArcs+1, api.Arc{})...), many},
		{net(1), none}, {net(-1), none}, {net(1, 1), none}, {net(3, -2), none}, {net(-3, 2, 0), none}, {net(1<<32, 0), none}, {linked(net(1, 0), arc(0, 1, 1, 1)), none},
		{net(mostSupply/2+1, -mostSupply/2-1), none}, {net(mostSupply, -mostSupply), none}, {net(mostSupply/2, 1, -1, -mostSupply/2), none}, {net(-mostSupply, mostSupply-1, 1), none}, {net(1<<32, -1<<32), none}, {net(1<<40, -1<<40), none}, {net(1<<62, -1<<62), none},
		// sums that do not fit a word
		{net(math.MinInt64, math.MinInt64), none}, {net(math.MinInt64), none}, {net(math.MinInt64, math.MaxInt64, 1), none}, {net(math.MaxInt64, -math.MaxInt64), none}, {net(numbers(4, 1<<62)...), none}, {net(math.MaxInt64, math.MaxInt64, 2), none}, {net(append(numbers(2, math.MinInt64), 5, -5)...), none}, {net(numbers(512, 1<<55)...), none},
	}
	var wild []api.Arc
	for _, x := range wildIndexes(3) {
		wild = append(wild, arc(x, 1, 1, 1), arc(1, x, 1, 1), arc(x, x, 1, 1))
	}
	for _, x := range beyond(0, mostCap) {
		wild = append(wild, arc(0, 1, x, 1))
	}
	for _, x := range beyond(-mostPrice, mostPrice) {
		wild = append(wild, arc(0, 1, 1, x))
	}
	for _, a := range append(wild, arc(0, 0, 1, 1), arc(2, 2, 0, 0)) {
		l = append(l, wrong[api.Net]{linked(empty(3), a), none}, wrong[api.Net]{linked(net(1, 1, -2), arc(0, 2, 1, 1), arc(2, 1, 1, 1), a), none}, wrong[api.Net]{linked(empty(3), a, arc(0, 1, 1, 1)), none})
	}
	return l
}

// P8.1: which nets are valid.
func TestCheck(t *testing.T) {
	for _, n := range edgeNets() {
		same(t, depot.Check(n), api.OK, "Check", len(n.Supply), len(n.Arcs))
	}
	for _, x := range wildNets() {
		same(t, depot.Check(x.x), x.e, "Check", x.x)
	}
}

// P8.1 to P8.4: the error of a net comes before all others.
func TestWildNets(t *testing.T) {
	for _, x := range wildNets() {
		n := x.x
		for _, l := range [][]int64{nil, {-1}, make([]int64, len(n.Supply)), make([]int64, len(n.Arcs)), numbers(len(n.Supply), math.MaxInt64)} {
			same(t, answerOf(depot.Cost(n, l)), bad[int64](x.e), "Cost", n, l)
			same(t, answerOf(depot.Proves(n, l)), bad[int64](x.e), "Proves", n, l)
			same(t, depot.CheckLeast(n, l, nil), x.e, "CheckLeast", n, l)
			same(t, depot.CheckLeast(n, nil, l), x.e, "CheckLeast", n, l)
		}
		for _, cut := range [][]int{nil, {0}, {-1}, {0, 0}, {1 << 40}} {
			same(t, answerOf(depot.Lacks(n, cut)), bad[int64](x.e), "Lacks", n, cut)
		}
		flow, potentials, e := depot.Least(n)
		if len(flow)+len(potentials) > 0 || e != x.e {
			t.Errorf("Least %v: %v, %v, %d, not %d", n, flow, potentials, e, x.e)
		}
		cut, lacks, e := depot.Missing(n)
		if len(cut) > 0 || lacks != 0 || e != x.e {
			t.Errorf("Missing %v: %v, %d, %d, not %d", n, cut, lacks, e, x.e)
		}
	}
}

// P8.1: what flows cost by hand, and what is no flow.
func TestCostByHand(t *testing.T) {
	circle := linked(empty(3), arc(0, 1, 5, -7), arc(1, 2, 6, 2), arc(2, 0, 4, 1), arc(1, 0, mostCap, 0))
	twice := linked(net(2, -2), arc(0, 1, 1, 3), arc(0, 1, 5, 4), arc(1, 0, 1, 5))
	for _, x := range []struct {
		n    api.Net
		flow []int64
		want answer[int64]
	}{
		{example(), []int64{2, 2, 1}, good[int64](9)}, {example(), []int64{1, 1, 2}, good[int64](12)},
		{example(), []int64{0, 0, 3}, bad[int64](api.ErrSum)}, {example(), []int64{3, 3, 0}, bad[int64](api.ErrSum)}, {example(), []int64{2, 1, 1}, bad[int64](api.ErrSum)}, {example(), []int64{1, 1, 1}, bad[int64](api.ErrSum)}, {example(), []int64{2, 2, 2}, bad[int64](api.ErrSum)}, {example(), []int64{0, 0, 0}, bad[int64](api.ErrSum)},
		{example(), []int64{2, 2}, bad[int64](api.ErrEqual)}, {example(), []int64{2, 2, 1, 0}, bad[int64](api.ErrEqual)}, {example(), nil, bad[int64](api.ErrEqual)}, {example(), []int64{-1, 5}, bad[int64](api.ErrEqual)},
		{circle, []int64{0, 0, 0, 0}, good[int64](0)}, {circle, []int64{4, 4, 4, 0}, good[int64](-16)}, {circle, []int64{5, 4, 4, 1}, good[int64](-23)}, {circle, []int64{5, 0, 0, 5}, good[int64](-35)},
		{circle, []int64{5, 5, 5, 0}, bad[int64](api.ErrSum)}, {circle, []int64{-1, -1, -1, 0}, bad[int64](api.ErrSum)}, {circle, []int64{-1, 0, 0, -1}, bad[int64](api.ErrSum)}, {circle, []int64{1, 0, 0, 0}, bad[int64](api.ErrSum)},
		{twice, []int64{1, 1, 0}, good[int64](7)}, {twice, []int64{0, 2, 0}, good[int64](8)}, {twice, []int64{1, 2, 1}, good[int64](16)}, {twice, []int64{2, 0, 0}, bad[int64](api.ErrSum)}, {twice, []int64{0, 4, 2}, bad[int64](api.ErrSum)},
		{empty(1), nil, good[int64](0)}, {empty(5), []int64{}, good[int64](0)}, {empty(5), []int64{0}, bad[int64](api.ErrEqual)}, {net(1, -1), nil, bad[int64](api.ErrSum)},
	} {
		same(t, answerOf(depot.Cost(x.n, x.flow)), x.want, "Cost", x.n, x.flow)
	}
	for _, x := range wildNumbers() {
		for i := range 4 {
			flow := []int64{4, 4, 4, 0}
			flow[i] = x
			same(t, answerOf(depot.Cost(circle, flow)), bad[int64](api.ErrSum), "Cost", flow)
		}
		same(t, answerOf(depot.Cost(circle, numbers(4, x))), bad[int64](api.ErrSum), "Cost", x)
		same(t, answerOf(depot.Cost(twice, []int64{x, 2 - x, 0})), bad[int64](api.ErrSum), "Cost", x)
	}
}

// P8.1: what potentials prove by hand, and what are none.
func TestProvesByHand(t *testing.T) {
	pays := linked(empty(2), arc(0, 1, 5, -3), arc(1, 0, 4, 1))
	for _, x := range []struct {
		n          api.Net
		potentials []int64
		want       answer[int64]
	}{
		{example(), []int64{0, 1, 5}, good[int64](9)}, {example(), []int64{0, 0, 0}, good[int64](0)}, {example(), []int64{7, 8, 12}, good[int64](9)}, {example(), []int64{0, -1, 5}, good[int64](5)}, {example(), []int64{5, 1, 0}, good[int64](-15)}, {example(), []int64{0, 1, 6}, good[int64](8)},
		{pays, []int64{0, 0}, good[int64](-15)}, {pays, []int64{0, -2}, good[int64](-9)}, {pays, []int64{1, 0}, good[int64](-10)}, {pays, []int64{3, 0}, good[int64](-8)}, {pays, []int64{5, 0}, good[int64](-16)},
		{example(), []int64{0, 1}, bad[int64](api.ErrEqual)}, {example(), []int64{0, 1, 5, 0}, bad[int64](api.ErrEqual)}, {example(), nil, bad[int64](api.ErrEqual)}, {example(), []int64{mostPotential + 1}, bad[int64](api.ErrEqual)},
		{net(3, -3), []int64{-mostPotential, mostPotential}, good[int64](6 * mostPotential)}, {net(-3, 3), []int64{-mostPotential, mostPotential}, good[int64](-6 * mostPotential)},
		{empty(1), []int64{5}, good[int64](0)}, {empty(1), []int64{mostPotential}, good[int64](0)}, {empty(1), []int64{-mostPotential}, good[int64](0)},
	} {
		same(t, answerOf(depot.Proves(x.n, x.potentials)), x.want, "Proves", x.n, x.potentials)
	}
	for _, x := range beyond(-mostPotential, mostPotential) {
		for i := range 3 {
			potentials := []int64{0, 1, 5}
			potentials[i] = x
			same(t, answerOf(depot.Proves(example(), potentials)), bad[int64](api.ErrRange), "Proves", potentials)
		}
		same(t, answerOf(depot.Proves(empty(1), []int64{x})), bad[int64](api.ErrRange), "Proves", x)
	}
}

// P8.1, R6: the greatest numbers that potentials can prove, and flows can cost.
func TestGreatestNumbers(t *testing.T) {
	n := linked(net(mostSupply/2, -mostSupply/2), slices.Repeat([]api.Arc{arc(1, 0, mostCap, -mostPrice)}, mostArcs)...)
	for _, p := range [][]int64{{mostPotential, -mostPotential}, {-mostPotential, mostPotential}, {mostPotential, mostPotential}} {
		same(t, answerOf(depot.Proves(n, p)), good(proofOf(n, p)), "Proves", p)
	}
	same(t, answerOf(depot.Proves(n, []int64{mostPotential, -mostPotential})), good[int64](-(1<<62)-(1<<51)-(1<<58)), "Proves")
	for i := range n.Arcs {
		n.Arcs[i] = arc(i%2, 1-i%2, mostCap, mostPrice)
	}
	n.Supply = make([]int64, 2)
	for _, cost := range []int64{mostPrice, -mostPrice} {
		for i := range n.Arcs {
			n.Arcs[i].Cost = cost
		}
		flow := numbers(mostArcs, mostCap)
		same(t, answerOf(depot.Cost(n, flow)), good(mostArcs*mostCap*cost), "Cost", cost)
	}
}

// P8.1: what cuts lack by hand, and what is no cut.
func TestLacksByHand(t *testing.T) {
	wide := linked(net(5, 2, -7), arc(0, 1, 9, 0), arc(1, 2, 4, 7), arc(0, 2, 2, 0), arc(2, 0, 100, 0))
	for _, x := range []struct {
		n    api.Net
		cut  []int
		want answer[int64]
	}{
		{linked(net(3, -3), arc(0, 1, 2, 1)), []int{0}, good[int64](1)}, {linked(net(3, -3), arc(0, 1, 3, 1)), []int{0}, good[int64](0)}, {linked(net(3, -3), arc(1, 0, 3, 1)), []int{0}, good[int64](3)}, {linked(net(-3, 3), arc(1, 0, 1, 1)), []int{1}, good[int64](2)},
		{wide, nil, good[int64](0)}, {wide, []int{0}, good[int64](0)}, {wide, []int{1}, good[int64](0)}, {wide, []int{2}, good[int64](0)}, {wide, []int{0, 1}, good[int64](1)}, {wide, []int{0, 2}, good[int64](0)}, {wide, []int{0, 1, 2}, good[int64](0)},
		{wide, []int{1, 0}, bad[int64](api.ErrRange)}, {wide, []int{0, 0}, bad[int64](api.ErrRange)}, {wide, []int{0, 1, 1}, bad[int64](api.ErrRange)}, {wide, []int{0, 2, 1}, bad[int64](api.ErrRange)}, {wide, []int{0, 1, 2, 3}, bad[int64](api.ErrRange)}, {wide, make([]int, 5000), bad[int64](api.ErrRange)},
		{empty(1), []int{0}, good[int64](0)}, {empty(mostNodes), []int{mostNodes - 1}, good[int64](0)}, {net(mostSupply/2, -mostSupply/2), []int{0}, good[int64](mostSupply / 2)},
	} {
		same(t, answerOf(depot.Lacks(x.n, x.cut)), x.want, "Lacks", x.n, x.cut)
	}
	for _, i := range wildIndexes(3) {
		for _, cut := range [][]int{{i}, {0, i}, {0, 1, 2, i}, {i, 1}, {i, i}} {
			same(t, answerOf(depot.Lacks(wide, cut)), bad[int64](api.ErrRange), "Lacks", cut)
		}
	}
}

// drawFlow draws numbers for the arcs of a net: a flow of it if there is one, seldom changed, or any numbers.
func drawFlow(r *rand.Rand, n api.Net) []int64 {
	flow, _, _ := depot.Least(n)
	if len(flow) != len(n.Arcs) || r.Intn(5) == 0 {
		flow = drawNumbers(r, len(n.Arcs), 0, 3)
	}
	if len(flow) > 0 && r.Intn(4) == 0 {
		i, j := r.Intn(len(flow)), r.Intn(len(flow))
		flow[i]++
		flow[j] += drawInt(r, -1, 1)
	}
	return drawAny(r, flow, append(flow, 0), flow[:len(flow)/2])
}

// drawPotentials draws numbers for the nodes of a net: a proof if there is one, seldom changed, or any numbers.
func drawPotentials(r *rand.Rand, n api.Net) []int64 {
	_, potentials, _ := depot.Least(n)
	if len(potentials) != len(n.Supply) || r.Intn(3) == 0 {
		potentials = drawNumbers(r, len(n.Supply), -9, 9)
	}
	if r.Intn(4) == 0 {
		potentials[r.Intn(len(potentials))] = pick(r, append(beyond(-mostPotential, mostPotential), -mostPotential, mostPotential, 0, 1, -1)...)
	}
	return drawAny(r, potentials, append(potentials, 0), potentials[:len(potentials)-1])
}

// P8.1, P8.3: drawn numbers in drawn nets, as they are defined.
func TestNumbersOfNets(t *testing.T) {
	r := chance(801)
	accepted := 0
	for range 4000 {
		n := drawSmallNet(r, 6, 3)
		flow, potentials := drawFlow(r, n), drawPotentials(r, n)
		cost, proof := good(int64(0)), good(int64(0))
		switch {
		case len(flow) != len(n.Arcs):
			cost.e = api.ErrEqual
		case !isFlow(n, flow):
			cost.e = api.ErrSum
		default:
			cost.x = costOf(n, flow)
		}
		switch {
		case len(potentials) != len(n.Supply):
			proof.e = api.ErrEqual
		case !arePotentials(n, potentials):
			proof.e = api.ErrRange
		default:
			proof.x = proofOf(n, potentials)
		}
		same(t, answerOf(depot.Cost(n, flow)), cost, "Cost", n, flow)
		same(t, answerOf(depot.Proves(n, potentials)), proof, "Proves", n, potentials)
		want := cost.e
		if want == api.OK {
			want = proof.e
		}
		if want == api.OK && cost != proof {
			want = api.ErrSum
		}
		same(t, depot.CheckLeast(n, flow, potentials), want, "CheckLeast", n, flow, potentials)
		if want == api.OK {
			accepted++
		}
		for cut := range cuts(n) {
			same(t, answerOf(depot.Lacks(n, cut)), good(lackOf(n, cut)), "Lacks", n, cut)
		}
	}
	if accepted < 1000 {
		t.Errorf("just %d flows are accepted", accepted)
	}
}

// P8.3: errors, in their order.
func TestCheckLeastErrors(t *testing.T) {
	for _, x := range []struct {
		flow, potentials []int64
		want             api.Errno
	}{
		{[]int64{2, 2, 1}, []int64{0, 1, 5}, api.OK}, {[]int64{2, 2, 1}, []int64{-9, -8, -4}, api.OK}, {[]int64{2, 2, 1}, []int64{0, 2, 5}, api.OK}, {[]int64{2, 2, 1}, []int64{0, 4, 5}, api.OK},
		{[]int64{2, 2}, nil, api.ErrEqual}, {[]int64{2, 2, 2}, nil, api.ErrSum}, {[]int64{2, 2, 2}, []int64{0, 1, 5}, api.ErrSum}, {[]int64{3, 3, 0}, []int64{0, 1, mostPotential + 1}, api.ErrSum},
		{[]int64{2, 2, 1}, nil, api.ErrEqual}, {[]int64{2, 2, 1}, []int64{0, 1}, api.ErrEqual}, {[]int64{2, 2, 1}, []int64{0, 1, 5, 5}, api.ErrEqual}, {[]int64{2, 2, 1}, []int64{mostPotential + 1, 1}, api.ErrEqual},
		{[]int64{2, 2, 1}, []int64{0, 1, mostPotential + 1}, api.ErrRange}, {[]int64{2, 2, 1}, []int64{0, math.MinInt64, 5}, api.ErrRange},
		{[]int64{2, 2, 1}, []int64{0, 1, 4}, api.ErrSum}, {[]int64{2, 2, 1}, []int64{0, 1, 6}, api.ErrSum}, {[]int64{2, 2, 1}, []int64{0, 0, 0}, api.ErrSum}, {[]int64{2, 2, 1}, []int64{0, 5, 5}, api.ErrSum}, {[]int64{2, 2, 1}, []int64{0, 0, 5}, api.ErrSum}, {[]int64{1, 1, 2}, []int64{0, 1, 5}, api.ErrSum},
	} {
		same(t, depot.CheckLeast(example(), x.flow, x.potentials), x.want, "CheckLeast", x.flow, x.potentials)
	}
}

// checkLeast checks what Least and Missing return for a net with a flow: by the definitions of flows and proofs.
func checkLeast(t *testing.T, n api.Net) int64 {
	t.Helper()
	flow, potentials := least(t, n)
	if !isFlow(n, flow) || !arePotentials(n, potentials) {
		t.Fatalf("Least %v: %v, %v", n, flow, potentials)
	}
	cost := costOf(n, flow)
	same(t, proofOf(n, potentials), cost, "the proof of Least", n, flow, potentials)
	same(t, depot.CheckLeast(n, flow, potentials), api.OK, "CheckLeast", n, flow, potentials)
	cut, lacks, e := depot.Missing(n)
	if len(cut) > 0 || lacks != 0 || e != api.ErrPlan {
		t.Errorf("Missing %v: %v, %d, %d", n, cut, lacks, e)
	}
	return cost
}

// checkMissing checks what Least and Missing return for a net without a flow, of which so much is missing.
func checkMissing(t *testing.T, n api.Net, most int64) {
	t.Helper()
	flow, potentials, e := depot.Least(n)
	if len(flow)+len(potentials) > 0 || e != api.ErrPlan {
		t.Errorf("Least %v: %v, %v, %d", n, flow, potentials, e)
	}
	cut, lacks, e := depot.Missing(n)
	if e != api.OK || lacks != most || !isCut(n, cut) || lackOf(n, cut) != most {
		t.Errorf("Missing %v: %v, %d, %d: not %d", n, cut, lacks, e, most)
	}
	same(t, answerOf(depot.Lacks(n, cut)), good(most), "Lacks", n, cut)
}

// P8.2, P8.4: nets by hand, with the cost of their least flow.
func TestLeastByHand(t *testing.T) {
	for _, x := range []struct {
		n    api.Net
		want int64
	}{
		{example(), 9}, {empty(1), 0}, {empty(7), 0}, {linked(empty(2), arc(0, 1, 5, 3)), 0}, {linked(empty(2), arc(0, 1, 5, -3)), 0},
		{linked(empty(2), arc(0, 1, 5, -3), arc(1, 0, 4, 1)), -8}, {linked(empty(2), arc(0, 1, 5, -3), arc(1, 0, 4, 3)), 0}, {linked(empty(2), arc(0, 1, 5, -3), arc(1, 0, 4, 4)), 0}, {linked(empty(2), arc(0, 1, 5, -3), arc(1, 0, 4, -4)), -28},
		{linked(net(2, -2), arc(0, 1, 1, 3), arc(0, 1, 5, 4), arc(1, 0, 1, 5)), 7}, {linked(net(2, -2), arc(0, 1, 1, 3), arc(0, 1, 5, 4), arc(1, 0, 1, -5)), 7 + 4 - 5},
		{linked(net(1, 1, -1, -1), arc(0, 2, 1, 1), arc(0, 3, 1, 2), arc(1, 2, 1, 1), arc(1, 3, 1, 9)), 3},
		{linked(net(1, 0, 0, -1), arc(0, 1, 9, 1), arc(1, 2, 9, 1), arc(2, 1, 7, -2), arc(2, 3, 9, 1)), 3 - 7},
		{linked(net(mostCap, 0, 0, -mostCap), arc(0, 1, mostCap, mostPrice), arc(1, 2, mostCap, mostPrice), arc(2, 3, mostCap, mostPrice)), 3 * mostCap * mostPrice},
		{linked(net(mostCap, -mostCap), arc(0, 1, mostCap, -mostPrice)), -mostCap * mostPrice},
		// two parts that have nothing to do with one another
		{linked(net(1, -1, 4, -4), arc(0, 1, 1, 7), arc(2, 3, 4, -5), arc(3, 2, 4, 6)), 7 - 20},
		// what was sent the near way first has to go back
		{linked(net(2, 0, 0, -2), arc(0, 1, 1, 1), arc(1, 2, 1, 1), arc(2, 3, 1, 1), arc(0, 2, 1, 4), arc(1, 3, 1, 4)), 10},
	} {
		same(t, checkLeast(t, x.n), x.want, "the cost of Least", x.n)
	}
}

// P8.2, P8.4: nets by hand that have no flow, and what the cut lacks that lacks most.
func TestMissingByHand(t *testing.T) {
	for _, x := range []struct {
		n    api.Net
		want int64
	}{
		{linked(net(3, -3), arc(0, 1, 2, 1)), 1}, {linked(net(-3, 3), arc(0, 1, 9, 1)), 3}, {net(mostSupply/2, -mostSupply/2), mostSupply / 2}, {net(1, 2, -3), 3},
		{linked(net(5, 2, -7), arc(0, 1, 9, 0), arc(1, 2, 4, 7), arc(0, 2, 2, 0)), 1}, {linked(net(5, -5, 5, -5), arc(0, 1, 3, 0), arc(2, 3, 1, 0)), 6}, {linked(net(5, -5, 5, -5), arc(0, 1, 3, 0), arc(2, 3, 1, 0), arc(0, 3, 9, 0)), 4},
		{linked(net(5, 0, -5), arc(0, 1, 4, -9), arc(1, 2, 3, -9), arc(1, 0, 9, -9)), 2}, {linked(net(4, 0, 0, -4), arc(0, 1, 3, 0), arc(0, 2, 3, 0), arc(1, 3, 1, 0), arc(2, 3, 2, 0), arc(1, 2, 9, 0)), 1},
	} {
		checkMissing(t, x.n, x.want)
	}
}

// P8.2, P8.4, P8.13: drawn nets, for which all flows and all cuts are tried: there is a flow just if no cut lacks something.
func TestLeastAndMissingTried(t *testing.T) {
	r := chance(802)
	solved := 0
	for range 3000 {
		n := drawSmallNet(r, 6, 3)
		want, ok := leastCost(n)
		most := lackMost(n)
		if ok != (most == 0) {
			t.Fatalf("%v has a flow: %t, but a cut lacks %d", n, ok, most)
		}
		if !ok {
			checkMissing(t, n, most)
			continue
		}
		same(t, checkLeast(t, n), want, "the cost of Least", n)
		solved++
	}
	if solved < 1000 || solved > 2900 {
		t.Errorf("%d nets have a flow", solved)
	}
}

// P8.2, P8.4: greater nets, with great numbers.
func TestLeastAndMissingDrawn(t *testing.T) {
	r := chance(803)
	solved := 0
	for range 600 {
		nodes := 2 + r.Intn(60)
		size := netSize{nodes: nodes, arcs: r.Intn(4 * nodes), room: pick[int64](r, 1, 5, 1000, mostCap/2), cost: pick[int64](r, 0, 1, 1000, mostPrice), below: r.Intn(2) == 0, feasible: r.Intn(2) == 0}
		n := drawNet(r, size)
		if most := missing(n); most > 0 {
			checkMissing(t, n, most)
		} else {
			checkLeast(t, n)
			solved++
		}
	}
	if solved < 100 || solved > 500 {
		t.Errorf("%d nets have a flow", solved)
	}
}

// P8.2: the longest ways: the potentials are in their range also if they have to be far apart.
func TestLeastOfLongWays(t *testing.T) {
	for _, cost := range []int64{mostPrice, -mostPrice, 0} {
		for _, back := range []bool{false, true} { // which arcs are listed first
			n := empty(mostNodes)
			n.Supply[0], n.Supply[mostNodes-1] = 5, -5
			for i := range mostNodes - 1 {
				n.Arcs = append(n.Arcs, arc(i, i+1, 5, cost))
			}
			if back {
				slices.Reverse(n.Arcs)
			}
			same(t, checkLeast(t, n), 5*(mostNodes-1)*cost, "the cost of Least", cost, back)
			n.Supply[0], n.Supply[mostNodes-1] = 3, -3 // nothing is full, so that all potentials are fixed
			same(t, checkLeast(t, n), 3*(mostNodes-1)*cost, "the cost of Least", cost, back)
			n.Supply[0], n.Supply[mostNodes-1] = 6, -6
			checkMissing(t, n, 1)
			n.Supply[0], n.Supply[mostNodes-1] = -1, 1
			checkMissing(t, n, 1)
		}
	}
}

// doubling is a net with k steps in which what can go the next shortest way is doubled again and again: it tries those who send little at a time.
func doubling(k int) api.Net {
	n := empty(2*k + 2)
	room := func(i int) int64 { return 1 << min(i, 19) }
	for i := range k {
		n.Arcs = append(n.Arcs, arc(0, 2*i+2, room(i), 0), arc(2*i+3, 1, room(i), 0))
		n.Supply[0] += room(i)
		n.Supply[1] -= room(i)
		for j := range k {
			if i != j {
				n.Arcs = append(n.Arcs, arc(2*i+2, 2*j+3, mostCap, room(max(i, j))-1))
			}
		}
	}
	return n
}

// P8.2, P8.4: nets of the greatest size, and of the greatest numbers.
func TestGreatestNets(t *testing.T) {
	r := chance(804)
	for _, size := range []netSize{{mostNodes, mostArcs, mostCap / 8, mostPrice, true, true}, {mostNodes, mostArcs, mostCap / 8, mostPrice, false, true}, {mostNodes, mostArcs, 5, 0, true, true}, {40, mostArcs, mostCap / 8, mostPrice, true, true}} {
		checkLeast(t, drawNet(r, size))
	}
	for _, size := range []netSize{{mostNodes, mostArcs, mostCap / 8, mostPrice, true, false}, {mostNodes, mostArcs, 9, 9, false, false}, {300, mostArcs, mostCap / 8, mostPrice, true, false}} {
		n := drawNet(r, size)
		n.Supply[0] += 5
		n.Supply[1] -= 5
		if most := missing(n); most > 0 {
			checkMissing(t, n, most)
		} else {
			checkLeast(t, n)
		}
	}
	full := linked(net(mostSupply/2, -mostSupply/2), slices.Repeat([]api.Arc{arc(0, 1, mostCap, 7)}, 128)...)
	same(t, checkLeast(t, full), 7*mostSupply/2, "the cost of Least")
	full.Arcs[5].Cap--
	checkMissing(t, full, 1)
	n := doubling(10)
	if most := missing(n); most > 0 {
		checkMissing(t, n, most)
	} else {
		checkLeast(t, n)
	}
}
