package depot

import (
	"iter"
	"slices"

	"coulomb/api"
)

// scale is by what the units are divided in which a mover moves.
const scale = 4

// noLane is at the beginning of a way.
const noLane = -1

// mover makes a least flow: it moves what nodes have too much of to those that have too little, first in great units, then in smaller ones, so that great numbers do not take many moves. A lane is an arc in one direction: 2 i is the arc i itself, 2 i + 1 is the way back along it.
//
// What a lane is priced is its cost, and the potential of its beginning, less that of its end. No lane that has room for a unit, and begins at a node that can still be reached, is priced below 0 while something moves; behind a level none at all is.
type mover struct {
	api.Net
	rooms      []int64 // how much more each lane can carry
	leaving    [][]int // the lanes that leave each node
	excess     []int64 // what each node has too much of; below 0, too little
	potentials []int64
}

// stop is a node at the end of a way, and the lane by which the way gets there.
type stop struct {
	length     int64
	node, lane int
}

// ways are the shortest ways to all nodes that are reached.
type ways struct {
	stops   []stop // in the order of their lengths
	reached []bool // whether each node is
	last    []int  // the last lane of the way to each node that is
}

// newMover returns a mover that has not moved anything.
func newMover(n api.Net) *mover {
	nodes := len(n.Supply)
	m := &mover{Net: n, leaving: make([][]int, nodes), excess: slices.Clone(n.Supply), potentials: make([]int64, nodes)}
	for i, a := range n.Arcs {
		m.rooms = append(m.rooms, a.Cap, 0)
		m.leaving[a.From] = append(m.leaving[a.From], 2*i)
		m.leaving[a.To] = append(m.leaving[a.To], 2*i+1)
	}
	return m
}

// moveAll moves as much as can be moved.
func (m *mover) moveAll() {
	for unit := int64(api.MaxCap); unit > 0; unit /= scale {
		m.fill(unit)
		for m.moveOn(unit) {
		}
		m.level(unit)
	}
}

// flow returns what each arc carries: what can be carried back.
func (m *mover) flow() []int64 {
	flow := make([]int64, len(m.Arcs))
	for i := range flow {
		flow[i] = m.rooms[2*i+1]
	}
	return flow
}

// missing returns how much could not be moved.
func (m *mover) missing() int64 {
	sum := int64(0)
	for _, x := range m.excess {
		sum += max(0, x)
	}
	return sum
}

// cut returns the nodes that can be reached from those that have too much left. Nothing more can leave these nodes, so that they lack what is missing; no cut lacks more, as that much less is enough.
func (m *mover) cut() []int {
	var nodes []int
	for node, is := range m.search(1).reached {
		if is {
			nodes = append(nodes, node)
		}
	}
	return nodes
}

// fill fills the lanes that have room for a unit, but are priced below 0.
func (m *mover) fill(unit int64) {
	for lane, room := range m.rooms {
		if room >= unit && m.price(lane) < 0 {
			m.carry(lane, room)
		}
	}
}

// level makes the potentials the lengths of the shortest ways, from any node, over lanes that have room for a unit. There are such ways, as no circle costs less than nothing; they have less than MaxNodes lanes, so that the potentials are within MaxPotential.
func (m *mover) level(unit int64) {
	clear(m.potentials)
	for changed := true; changed; {
		changed = false
		for lane, room := range m.rooms {
			if price := m.price(lane); room >= unit && price < 0 {
				m.potentials[m.end(lane)] += price
				changed = true
			}
		}
	}
}

// moveOn moves at least a unit along the shortest way, and what it can along others that are shortest, too. It reports whether there was a way.
func (m *mover) moveOn(unit int64) bool {
	w := m.search(unit)
	m.raise(w)
	found := false
	for _, s := range w.stops {
		if m.excess[s.node] <= -unit {
			m.send(w, s.node, unit)
			found = true
		}
	}
	return found
}

// search finds the shortest ways, by price, from the nodes that have at least a unit too much, over lanes that have room for it.
func (m *mover) search(unit int64) ways {
	w := ways{reached: make([]bool, len(m.excess)), last: make([]int, len(m.excess))}
	var open heap[stop]
	for node, x := range m.excess {
		if x >= unit {
			open.push(stop{node: node, lane: noLane})
		}
	}
	for !open.isEmpty() {
		s := open.pop()
		if w.reached[s.node] {
			continue
		}
		w.reach(s)
		for _, lane := range m.leaving[s.node] {
			if end := m.end(lane); m.rooms[lane] >= unit && !w.reached[end] {
				open.push(stop{s.length + m.price(lane), end, lane})
			}
		}
	}
	return w
}

// raise adds the lengths of ways to the potentials, so that the lanes of the ways are priced 0, and those between other nodes that are reached not below that. The nodes that are not reached now will not be before the next level: nothing moves that could open a lane to them.
func (m *mover) raise(w ways) {
	for _, s := range w.stops {
		m.potentials[s.node] += s.length
	}
}

// send moves as much as possible along the way to a node, if that still is a unit.
func (m *mover) send(w ways, node int, unit int64) {
	most, start := -m.excess[node], node
	for lane := range m.back(w, node) {
		most, start = min(most, m.rooms[lane]), m.start(lane)
	}
	most = min(most, m.excess[start])
	if most < unit {
		return
	}
	for lane := range m.back(w, node) {
		m.carry(lane, most)
	}
}

// back yields the lanes of the way to a node, the last one first.
func (m *mover) back(w ways, node int) iter.Seq[int] {
	return func(yield func(lane int) bool) {
		for at := node; w.last[at] != noLane; at = m.start(w.last[at]) {
			if !yield(w.last[at]) {
				return
			}
		}
	}
}

// carry moves something along a lane.
func (m *mover) carry(lane int, units int64) {
	m.rooms[lane] -= units
	m.rooms[opposite(lane)] += units
	m.excess[m.start(lane)] -= units
	m.excess[m.end(lane)] += units
}

// price returns what a lane is priced.
func (m *mover) price(lane int) int64 {
	cost := m.Arcs[lane/2].Cost
	if isBack(lane) {
		cost = -cost
	}
	return cost + m.potentials[m.start(lane)] - m.potentials[m.end(lane)]
}

// start returns the node where a lane begins.
func (m *mover) start(lane int) int {
	if isBack(lane) {
		return m.Arcs[lane/2].To
	}
	return m.Arcs[lane/2].From
}

// end returns the node where a lane ends.
func (m *mover) end(lane int) int { return m.start(opposite(lane)) }

// isBack reports whether a lane is the way back along an arc.
func isBack(lane int) bool { return lane%2 == 1 }

// opposite returns the other lane of the same arc.
func opposite(lane int) int { return lane ^ 1 }

// isBefore orders stops by the lengths of their ways.
func (s stop) isBefore(other stop) bool { return s.length < other.length }

// reach adds a node to those that are reached.
func (w *ways) reach(s stop) {
	w.stops = append(w.stops, s)
	w.reached[s.node] = true
	w.last[s.node] = s.lane
}
