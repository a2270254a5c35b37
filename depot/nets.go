package depot

import (
	"slices"

	"coulomb/api"
)

// builder builds a net from supplies and arcs.
type builder struct{ api.Net }

// Check reports whether a net is valid. (P8.1)
func Check(n api.Net) api.Errno {
	if len(n.Supply) < 1 || len(n.Supply) > api.MaxNodes || len(n.Arcs) > api.MaxArcs {
		return api.ErrMany
	}
	if !areSupplies(n.Supply) {
		return api.ErrArg
	}
	for _, a := range n.Arcs {
		if !isArc(a, len(n.Supply)) {
			return api.ErrArg
		}
	}
	return api.OK
}

// Cost returns the cost of a flow. (P8.1)
func Cost(n api.Net, flow []int64) (int64, api.Errno) {
	if e := Check(n); e != api.OK {
		return 0, e
	}
	if len(flow) != len(n.Arcs) {
		return 0, api.ErrEqual
	}
	if !isFlow(n, flow) {
		return 0, api.ErrSum
	}
	cost := int64(0)
	for i, a := range n.Arcs {
		cost += flow[i] * a.Cost
	}
	return cost, api.OK
}

// Proves returns what potentials prove. (P8.1)
func Proves(n api.Net, potentials []int64) (int64, api.Errno) {
	if e := Check(n); e != api.OK {
		return 0, e
	}
	if len(potentials) != len(n.Supply) {
		return 0, api.ErrEqual
	}
	if !areFrom(potentials, -api.MaxPotential, api.MaxPotential) {
		return 0, api.ErrRange
	}
	proof := int64(0) // its amount is less than 2^63: that of the arcs is at most 2^62 + 2^51, that of the supplies 2^58
	for _, a := range n.Arcs {
		proof += a.Cap * min(0, a.Cost+potentials[a.From]-potentials[a.To])
	}
	for node, supply := range n.Supply {
		proof -= supply * potentials[node]
	}
	return proof, api.OK
}

// Lacks returns what a cut lacks. (P8.1)
func Lacks(n api.Net, cut []int) (int64, api.Errno) {
	if e := Check(n); e != api.OK {
		return 0, e
	}
	isIn := make([]bool, len(n.Supply))
	last, lacks := -1, int64(0)
	for _, node := range cut {
		if !isIndex(node, len(n.Supply)) || node <= last {
			return 0, api.ErrRange
		}
		last, isIn[node] = node, true
		lacks += n.Supply[node]
	}
	for _, a := range n.Arcs {
		if isIn[a.From] && !isIn[a.To] {
			lacks -= a.Cap
		}
	}
	return max(0, lacks), api.OK
}

// Least returns a least flow, and potentials. (P8.2)
func Least(n api.Net) ([]int64, []int64, api.Errno) {
	if e := Check(n); e != api.OK {
		return nil, nil, e
	}
	m := newMover(n)
	m.moveAll()
	if m.missing() > 0 {
		return nil, nil, api.ErrPlan
	}
	return m.flow(), m.potentials, api.OK
}

// CheckLeast reports whether a flow is a least one. (P8.3)
func CheckLeast(n api.Net, flow, potentials []int64) api.Errno {
	cost, e := Cost(n, flow)
	if e != api.OK {
		return e
	}
	return checkProof(n, potentials, cost)
}

// Missing returns a cut that lacks something. (P8.4)
func Missing(n api.Net) ([]int, int64, api.Errno) {
	if e := Check(n); e != api.OK {
		return nil, 0, e
	}
	m := newMover(n)
	m.moveAll()
	if m.missing() == 0 {
		return nil, 0, api.ErrPlan
	}
	return m.cut(), m.missing(), api.OK
}

// checkProof returns the errors of Proves, and ErrSum if potentials do not prove a cost.
func checkProof(n api.Net, potentials []int64, cost int64) api.Errno {
	proof, e := Proves(n, potentials)
	if e != api.OK {
		return e
	}
	if proof != cost {
		return api.ErrSum
	}
	return api.OK
}

// areSupplies reports whether some numbers can be the supplies of a net.
func areSupplies(l []int64) bool {
	sum, amounts := int64(0), int64(0)
	for _, supply := range l {
		if !isFrom(supply, -api.MaxSupply, api.MaxSupply) { // so that the amounts of all of them fit a word
			return false
		}
		sum += supply
		amounts += max(supply, -supply)
	}
	return sum == 0 && amounts <= api.MaxSupply
}

// isArc reports whether an arc is valid in a net of some nodes.
func isArc(a api.Arc, nodes int) bool {
	return isIndex(a.From, nodes) && isIndex(a.To, nodes) && a.From != a.To && isFrom(a.Cap, 0, api.MaxCap) && isFrom(a.Cost, -api.MaxPrice, api.MaxPrice)
}

// isFlow reports whether there is a number for each arc from 0 to its Cap, and whether what the flow takes from each node is its supply.
func isFlow(n api.Net, flow []int64) bool {
	taken := make([]int64, len(n.Supply))
	for i, a := range n.Arcs {
		if !isFrom(flow[i], 0, a.Cap) {
			return false
		}
		taken[a.From] += flow[i]
		taken[a.To] -= flow[i]
	}
	return slices.Equal(taken, n.Supply)
}

// newBuilder returns a builder of a net with some nodes, which supply nothing.
func newBuilder(nodes int) *builder {
	return &builder{api.Net{Supply: make([]int64, nodes)}}
}

// add adds arcs.
func (b *builder) add(arcs ...api.Arc) { b.Arcs = append(b.Arcs, arcs...) }

// move adds what a node supplies, and another one needs.
func (b *builder) move(from, to int, units int64) {
	b.Supply[from] += units
	b.Supply[to] -= units
}
