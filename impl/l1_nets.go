package impl

import (
	"math/bits"
	"slices"
)

// MaxNodes is the maximum number of nodes of a net.
const MaxNodes = 6

// leastRing is the least number of nodes of a ring: with fewer of them the next node is the one before.
const leastRing = 3

// NetOk reports whether a net has for each of 1..MaxNodes nodes the set of its neighbours, told by a number to which each of them adds 1 for the node 0, 2 for 1, and so on, each next one twice as much, of the nodes of the net alone: no node is its own neighbour, and each one is a neighbour of each of its neighbours.
func NetOk(net []int) bool {
	if len(net) < 1 || len(net) > MaxNodes {
		return false
	}
	for node, near := range net {
		if !setOk(len(net), near) || !nearBothWays(net, node) {
			return false
		}
	}
	return true
}

// NearOf returns the set of all neighbours of nodes of a set of a net (NetOk), told as neighbours are; -1 for others.
func NearOf(net []int, set int) int {
	if !NetOk(net) || !setOk(len(net), set) {
		return -1
	}
	return nearSet(net, set)
}

// DistancesFrom returns for each node of a net the least number of steps from a node of a set to it, each from a node to a neighbour of it (NetOk, NearOf), and -1 for each that is not come to; nil for others.
func DistancesFrom(net []int, set int) []int {
	if !NetOk(net) || !setOk(len(net), set) {
		return nil
	}
	row := make([]int, len(net))
	for node := range row {
		row[node] = -1
	}
	come, wave := 0, set
	for step := 0; wave != 0; step++ {
		come |= wave
		for node := range row {
			if hasNode(wave, node) {
				row[node] = step
			}
		}
		wave = nearSet(net, wave) &^ come
	}
	return row
}

// PartsOf returns for each node of a net (NetOk) the least node that is come to from it by steps (DistancesFrom); nil for others.
func PartsOf(net []int) []int {
	if !NetOk(net) {
		return nil
	}
	labels := make([]int, len(net))
	for node := range labels {
		labels[node] = node
	}
	for node, near := range net {
		for other := range node {
			if hasNode(near, other) {
				mergeLabels(labels, labels[node], labels[other])
			}
		}
	}
	return labels
}

// RingNet returns the net of so many nodes, in 3..MaxNodes, of which each has the next one and the one before for neighbours, the first one and the last one being neighbours; nil for others.
func RingNet(nodes int) []int {
	if nodes < leastRing || nodes > MaxNodes {
		return nil
	}
	net := PathNet(nodes)
	addWire(net, 0, nodes-1)
	return net
}

// PathNet returns the net of so many nodes, in 1..MaxNodes, of which each has the next one and the one before for neighbours, if there are such ones; nil for others.
func PathNet(nodes int) []int {
	if nodes < 1 || nodes > MaxNodes {
		return nil
	}
	net := make([]int, nodes)
	for node := 1; node < nodes; node++ {
		addWire(net, node-1, node)
	}
	return net
}

// JoinedNet returns the net of the nodes of two nets (NetOk), those of the second one behind those of the first one, with their neighbours, and no others, and true; nil and false if that is no net, and for others.
func JoinedNet(a []int, b []int) ([]int, bool) {
	if !NetOk(a) || !NetOk(b) || len(a)+len(b) > MaxNodes {
		return nil, false
	}
	net := make([]int, 0, len(a)+len(b))
	net = append(net, a...)
	for _, near := range b {
		net = append(net, near<<len(a))
	}
	return net, true
}

// NamedNet returns a net (NetOk) in which each node has the number that an order tells for it, which has each number from 0 on, and less than the nodes, once; and true; nil and false for others.
func NamedNet(net []int, order []int) ([]int, bool) {
	if !NetOk(net) || !orderOk(len(net), order) {
		return nil, false
	}
	named := make([]int, len(net))
	for node, near := range net {
		named[order[node]] = namedSet(near, order)
	}
	return named, true
}

// WiresOf returns how many pairs of neighbours a net has (NetOk); -1 for others.
func WiresOf(net []int) int {
	if !NetOk(net) {
		return -1
	}
	ends := 0
	for _, near := range net {
		ends += sizeOf(near)
	}
	return ends / 2
}

// FarthestOf returns the greatest distance from a node, from 0 on, of a net of all nodes that are come to from it (NetOk, DistancesFrom); -1 for others.
func FarthestOf(net []int, node int) int {
	if !NetOk(net) || node < 0 || node >= len(net) {
		return -1
	}
	return slices.Max(DistancesFrom(net, 1<<node))
}

// setOk refuses negative numbers by themselves, for read bit by bit they look like sets too.
func setOk(nodes int, set int) bool {
	return set >= 0 && set < 1<<nodes
}

func hasNode(set int, node int) bool {
	return set>>node&1 == 1
}

func sizeOf(set int) int {
	return bits.OnesCount(uint(set))
}

func nearBothWays(net []int, node int) bool {
	for other := range net {
		if hasNode(net[node], other) && (other == node || !hasNode(net[other], node)) {
			return false
		}
	}
	return true
}

func nearSet(net []int, set int) int {
	near := 0
	for node, row := range net {
		if hasNode(set, node) {
			near |= row
		}
	}
	return near
}

// mergeLabels keeps the lesser label, so that in the end each part has the label of its least node.
func mergeLabels(labels []int, a int, b int) {
	least := min(a, b)
	for node, label := range labels {
		if label == a || label == b {
			labels[node] = least
		}
	}
}

func addWire(net []int, a int, b int) {
	net[a] |= 1 << b
	net[b] |= 1 << a
}

// orderOk needs no second pass for numbers that are missing: as many numbers as nodes, none of them twice, are all of them.
func orderOk(nodes int, order []int) bool {
	if len(order) != nodes {
		return false
	}
	seen := 0
	for _, name := range order {
		if name < 0 || name >= nodes || hasNode(seen, name) {
			return false
		}
		seen |= 1 << name
	}
	return true
}

func namedSet(set int, order []int) int {
	named := 0
	for node, name := range order {
		if hasNode(set, node) {
			named |= 1 << name
		}
	}
	return named
}
