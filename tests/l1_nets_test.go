package tests

import (
	"fmt"
	"iter"
	"slices"
	"testing"

	"loop.example/firingnets/impl"
)

func TestMostNodes(t *testing.T) {
	wantNumber(t, "MaxNodes", impl.MaxNodes, 6)
}

// Promise 1.

func TestNodesWithoutNeighboursAreANet(t *testing.T) {
	for nodes := 1; nodes <= impl.MaxNodes; nodes++ {
		if !impl.NetOk(make([]int, nodes)) {
			t.Fatalf("%d nodes without neighbours are no net", nodes)
		}
	}
	if impl.NetOk(make([]int, impl.MaxNodes+1)) {
		t.Fatal("a net of more than MaxNodes nodes")
	}
}

func TestNetOkOfEveryNet(t *testing.T) {
	for net := range everyNet() {
		if !impl.NetOk(net) {
			t.Fatalf("%v is no net", net)
		}
	}
}

// Rows of a few nodes with all numbers near those that sets have: just as many are nets as there are choices of wires.
func TestNetOkOfEveryRow(t *testing.T) {
	for nodes := 1; nodes <= 4; nodes++ {
		nets := map[string]bool{}
		for net := range netsOf(nodes) {
			nets[fmt.Sprint(net)] = true
		}
		row := make([]int, nodes)
		everyRow(row, 0, -2, 1<<nodes+1, func() {
			if impl.NetOk(row) != nets[fmt.Sprint(row)] {
				t.Fatalf("%v: %v", row, impl.NetOk(row))
			}
		})
	}
}

func everyRow(row []int, place, least, most int, visit func()) {
	if place == len(row) {
		visit()
		return
	}
	for number := least; number <= most; number++ {
		row[place] = number
		everyRow(row, place+1, least, most, visit)
	}
}

func TestNetOkOfWrongNets(t *testing.T) {
	for what, net := range wrongNets() {
		if impl.NetOk(net) {
			t.Fatalf("%s: %v is a net", what, net)
		}
	}
}

// Promise 2.

func TestNeighboursAreNeighboursOfSome(t *testing.T) {
	for net := range everyNet() {
		for set := range 1 << len(net) {
			near := impl.NearOf(net, set)
			for node := range net {
				if inSet(near, node) != (net[node]&set != 0) {
					t.Fatalf("%v, %b: %b, wrong for %d", net, set, near, node)
				}
			}
			if near < 0 || near >= 1<<len(net) {
				t.Fatalf("%v, %b: %d has nodes beyond the net", net, set, near)
			}
		}
	}
}

func TestNearOfNoNodesIsNone(t *testing.T) {
	for net := range everyNet() {
		wantNumber(t, "neighbours of no nodes", impl.NearOf(net, 0), 0)
	}
}

func TestNearOfMayHaveNodesOfTheSet(t *testing.T) {
	wantNumber(t, "one node", impl.NearOf([]int{0}, 1), 0)
	wantNumber(t, "one end of a wire", impl.NearOf([]int{2, 1}, 1), 2)
	wantNumber(t, "both ends of a wire", impl.NearOf([]int{2, 1}, 3), 3)
	wantNumber(t, "a path from its middle", impl.NearOf([]int{2, 5, 2}, 2), 5)
}

func TestNearOfWrong(t *testing.T) {
	for what, net := range wrongNets() {
		for _, set := range []int{0, 1, -1} {
			wantNumber(t, what, impl.NearOf(net, set), -1)
		}
	}
	for net := range everyWidth() {
		for _, set := range append(wrongNumbers(), 1<<len(net), 1<<len(net)+1) {
			wantNumber(t, fmt.Sprint(net, set), impl.NearOf(net, set), -1)
		}
	}
}

// everyWidth tells a net of each number of nodes: a path, told without the program.
func everyWidth() iter.Seq[[]int] {
	return func(yield func([]int) bool) {
		for nodes := 1; nodes <= impl.MaxNodes; nodes++ {
			path := make([]int, nodes)
			for node := 1; node < nodes; node++ {
				path[node-1] += 1 << node
				path[node] += 1 << (node - 1)
			}
			if !yield(path) {
				return
			}
		}
	}
}

// Promise 3.

func TestDistancesAreLeast(t *testing.T) {
	for net := range everyNet() {
		far := farTable(net)
		for set := range 1 << len(net) {
			row := impl.DistancesFrom(net, set)
			if !slices.Equal(row, distancesBy(far, set)) {
				t.Fatalf("%v, %b: %v, not %v", net, set, row, distancesBy(far, set))
			}
		}
	}
}

func TestNeighboursAreOneStepApart(t *testing.T) {
	for net := range everyNet() {
		for set := range 1 << len(net) {
			row := impl.DistancesFrom(net, set)
			if len(row) != len(net) {
				t.Fatalf("%v, %b: %v", net, set, row)
			}
			for node := range net {
				if (row[node] == 0) != inSet(set, node) {
					t.Fatalf("%v, %b: %v, wrong for %d", net, set, row, node)
				}
				wantOneStepApart(t, net, row, node)
			}
		}
	}
}

func wantOneStepApart(t *testing.T, net, row []int, node int) {
	nearer := row[node] <= 0
	for other := range net {
		if !inSet(net[node], other) {
			continue
		}
		apart := row[node] - row[other]
		if (row[node] < 0) != (row[other] < 0) || apart < -1 || apart > 1 {
			t.Fatalf("%v: %v, at %d and %d", net, row, node, other)
		}
		nearer = nearer || apart == 1
	}
	if !nearer {
		t.Fatalf("%v: %v, no neighbour of %d is nearer", net, row, node)
	}
}

func TestDistancesOfNodesThatAreNotComeTo(t *testing.T) {
	wantRow(t, "one node", impl.DistancesFrom([]int{0}, 1), []int{0})
	wantRow(t, "one node from none", impl.DistancesFrom([]int{0}, 0), []int{-1})
	wantRow(t, "a ring from none", impl.DistancesFrom([]int{6, 5, 3}, 0), []int{-1, -1, -1})
	wantRow(t, "a path and a node", impl.DistancesFrom([]int{2, 5, 2, 0}, 1), []int{0, 1, 2, -1})
	wantRow(t, "the node beside a path", impl.DistancesFrom([]int{2, 5, 2, 0}, 8), []int{-1, -1, -1, 0})
	wantRow(t, "three pairs from two", impl.DistancesFrom([]int{8, 16, 32, 1, 2, 4}, 1+16), []int{0, 1, -1, 1, 0, -1})
	wantRow(t, "both ends of a path", impl.DistancesFrom([]int{2, 5, 10, 20, 40, 16}, 33), []int{0, 1, 2, 2, 1, 0})
}

func TestDistancesFromWrong(t *testing.T) {
	for what, net := range wrongNets() {
		for _, set := range []int{0, 1, -1} {
			wantRow(t, what, impl.DistancesFrom(net, set), nil)
		}
	}
	for net := range everyWidth() {
		for _, set := range append(wrongNumbers(), 1<<len(net), 1<<len(net)+1) {
			wantRow(t, fmt.Sprint(net, set), impl.DistancesFrom(net, set), nil)
		}
	}
}

// Promise 4.

func TestPartsAreWhatIsComeTo(t *testing.T) {
	for net := range everyNet() {
		parts := impl.PartsOf(net)
		if len(parts) != len(net) {
			t.Fatalf("%v: %v", net, parts)
		}
		for node := range net {
			for other, way := range impl.DistancesFrom(net, 1<<node) {
				if (way >= 0) != (parts[node] == parts[other]) {
					t.Fatalf("%v: %v, at %d and %d", net, parts, node, other)
				}
			}
		}
		if want := partsBy(farTable(net)); !slices.Equal(parts, want) {
			t.Fatalf("%v: %v, not %v", net, parts, want)
		}
	}
}

func TestPartsOfSomeNets(t *testing.T) {
	wantRow(t, "one node", impl.PartsOf([]int{0}), []int{0})
	wantRow(t, "six nodes alone", impl.PartsOf(make([]int, 6)), []int{0, 1, 2, 3, 4, 5})
	wantRow(t, "the middle node alone", impl.PartsOf([]int{4, 0, 1}), []int{0, 1, 0})
	wantRow(t, "three pairs", impl.PartsOf([]int{32, 16, 8, 4, 2, 1}), []int{0, 1, 2, 2, 1, 0})
	wantRow(t, "a path whose first nodes are its ends", impl.PartsOf([]int{4, 8, 17, 34, 36, 24}), []int{0, 0, 0, 0, 0, 0})
}

func TestPartsOfWrong(t *testing.T) {
	for what, net := range wrongNets() {
		wantRow(t, what, impl.PartsOf(net), nil)
	}
}

// Promise 5.

func TestRoundARingItIsHalfAsFarAtMost(t *testing.T) {
	for nodes := 3; nodes <= impl.MaxNodes; nodes++ {
		net := impl.RingNet(nodes)
		if !impl.NetOk(net) || len(net) != nodes {
			t.Fatalf("%d: %v", nodes, net)
		}
		wantRow(t, "parts of a ring", impl.PartsOf(net), make([]int, nodes))
		for node := range net {
			next, before := (node+1)%nodes, (node+nodes-1)%nodes
			wantNumber(t, "neighbours in a ring", net[node], 1<<next+1<<before)
		}
		wantNumber(t, "the farthest node", slices.Max(impl.DistancesFrom(net, 1)), nodes/2)
	}
}

func TestRingNets(t *testing.T) {
	wantRow(t, "least", impl.RingNet(3), []int{6, 5, 3})
	wantRow(t, "of four", impl.RingNet(4), []int{10, 5, 10, 5})
	wantRow(t, "greatest", impl.RingNet(6), []int{34, 5, 10, 20, 40, 17})
	for _, nodes := range append(wrongNumbers(), 0, 1, 2, 7) {
		wantRow(t, fmt.Sprint("of ", nodes), impl.RingNet(nodes), nil)
	}
}

// Promise 6.

func TestAlongAPathItIsAsFarAsThePlacesTell(t *testing.T) {
	for nodes := 1; nodes <= impl.MaxNodes; nodes++ {
		net := impl.PathNet(nodes)
		if !impl.NetOk(net) || len(net) != nodes {
			t.Fatalf("%d: %v", nodes, net)
		}
		for node, way := range impl.DistancesFrom(net, 1) {
			wantNumber(t, "distance along a path", way, node)
		}
	}
}

func TestPathNets(t *testing.T) {
	wantRow(t, "least", impl.PathNet(1), []int{0})
	wantRow(t, "of two", impl.PathNet(2), []int{2, 1})
	wantRow(t, "of three", impl.PathNet(3), []int{2, 5, 2})
	wantRow(t, "greatest", impl.PathNet(6), []int{2, 5, 10, 20, 40, 16})
	for net := range everyWidth() {
		wantRow(t, "of each width", impl.PathNet(len(net)), net)
	}
	for _, nodes := range append(wrongNumbers(), 0, 7) {
		wantRow(t, fmt.Sprint("of ", nodes), impl.PathNet(nodes), nil)
	}
}

// Promise 7.

func TestSideBySideNetsDoNotTouch(t *testing.T) {
	for first := 1; first < impl.MaxNodes; first++ {
		for second := 1; first+second <= impl.MaxNodes; second++ {
			for a := range netsOf(first) {
				for b := range netsOf(second) {
					wantSideBySide(t, a, b)
				}
			}
		}
	}
}

func wantSideBySide(t *testing.T, a, b []int) {
	t.Helper()
	net, ok := impl.JoinedNet(a, b)
	if !ok || !impl.NetOk(net) || len(net) != len(a)+len(b) {
		t.Fatalf("%v, %v: %v, %v", a, b, net, ok)
	}
	what := fmt.Sprint(a, b)
	wantRow(t, what, net[:len(a)], a)
	for node, near := range b {
		wantNumber(t, what, net[len(a)+node], near<<len(a))
	}
	for _, way := range impl.DistancesFrom(net, 1<<len(a)-1)[len(a):] {
		wantNumber(t, what, way, -1)
	}
	wantRow(t, what, impl.DistancesFrom(net, 1<<len(a))[len(a):], impl.DistancesFrom(b, 1))
}

func TestJoinedNets(t *testing.T) {
	net, ok := impl.JoinedNet([]int{0}, []int{0})
	if wantRow(t, "two nodes", net, []int{0, 0}); !ok {
		t.Fatal("two nodes are no net")
	}
	net, ok = impl.JoinedNet([]int{6, 5, 3}, []int{2, 5, 2})
	if wantRow(t, "a ring and a path", net, []int{6, 5, 3, 16, 40, 16}); !ok {
		t.Fatal("a ring and a path are no net")
	}
}

func TestJoinedNetsWrong(t *testing.T) {
	for what, wrong := range wrongNets() {
		net, ok := impl.JoinedNet(wrong, []int{0})
		wantNone(t, what+" first", net, ok)
		net, ok = impl.JoinedNet([]int{0}, wrong)
		wantNone(t, what+" second", net, ok)
		net, ok = impl.JoinedNet(wrong, wrong)
		wantNone(t, what+" twice", net, ok)
	}
	for a := range everyWidth() {
		for b := range everyWidth() {
			if net, ok := impl.JoinedNet(a, b); len(a)+len(b) > impl.MaxNodes {
				wantNone(t, fmt.Sprint("too many nodes:", a, b), net, ok)
			}
		}
	}
}

// Promise 8.

func TestNamesChangeNoDistances(t *testing.T) {
	for nodes := 1; nodes < impl.MaxNodes; nodes++ {
		for net := range netsOf(nodes) {
			for _, order := range ordersOf(nodes) {
				wantNamed(t, net, order)
			}
		}
	}
}

func TestNamesChangeNoDistancesOfMostNodes(t *testing.T) {
	orders := ordersOf(impl.MaxNodes)
	place := 0
	for net := range netsOf(impl.MaxNodes) {
		// 7 shares no divisor with the number of orders, so that each order has its turn.
		place = (place + 7) % len(orders)
		wantNamed(t, net, orders[place])
	}
}

func wantNamed(t *testing.T, net, order []int) {
	t.Helper()
	named, ok := impl.NamedNet(net, order)
	if !ok || !impl.NetOk(named) || len(named) != len(net) {
		t.Fatalf("%v, %v: %v, %v", net, order, named, ok)
	}
	for a := range net {
		for b := range net {
			if inSet(net[a], b) != inSet(named[order[a]], order[b]) {
				t.Fatalf("%v, %v: %v, wrong for %d and %d", net, order, named, a, b)
			}
		}
	}
	after := impl.DistancesFrom(named, 1<<order[0])
	for node, way := range impl.DistancesFrom(net, 1) {
		if after[order[node]] != way {
			t.Fatalf("%v, %v: %v, farther or nearer at %d", net, order, named, node)
		}
	}
}

// An order tells for each node its number, not for each number its node: a round of three tells these apart.
func TestNamedNets(t *testing.T) {
	net, ok := impl.NamedNet([]int{2, 5, 2}, []int{1, 2, 0})
	if wantRow(t, "a path in a round", net, []int{4, 4, 3}); !ok {
		t.Fatal("a path in a round is no net")
	}
	net, ok = impl.NamedNet([]int{0}, []int{0})
	if wantRow(t, "one node", net, []int{0}); !ok {
		t.Fatal("one node is no net")
	}
	net, ok = impl.NamedNet([]int{2, 5, 10, 20, 40, 16}, []int{5, 4, 3, 2, 1, 0})
	if wantRow(t, "a path turned round", net, []int{2, 5, 10, 20, 40, 16}); !ok {
		t.Fatal("a path turned round is no net")
	}
}

func TestNamedNetsWrong(t *testing.T) {
	for what, wrong := range wrongNets() {
		for nodes := 0; nodes <= impl.MaxNodes+1; nodes++ {
			net, ok := impl.NamedNet(wrong, ordersOf(nodes)[0])
			wantNone(t, what, net, ok)
		}
	}
	path := []int{2, 5, 2}
	for _, order := range wrongOrders() {
		net, ok := impl.NamedNet(path, order)
		wantNone(t, fmt.Sprint("by ", order), net, ok)
	}
	for _, number := range wrongNumbers() {
		net, ok := impl.NamedNet(path, []int{0, 1, number})
		wantNone(t, fmt.Sprint("with ", number), net, ok)
	}
}

// wrongOrders are none of three nodes.
func wrongOrders() [][]int {
	return [][]int{
		nil, {}, {0}, {0, 1}, {0, 1, 2, 3}, {2, 1, 0, 0}, {0, 1, 2, 3, 4, 5, 6},
		{0, 0, 1}, {0, 1, 1}, {1, 2, 1}, {2, 2, 2}, {0, 0, 0},
		{1, 2, 3}, {0, 1, 3}, {3, 1, 0}, {-1, 0, 1}, {0, -1, 1}, {0, 1, -2},
	}
}

// Promise 9.

func TestEachWireHasTwoEnds(t *testing.T) {
	for net := range everyNet() {
		wires := impl.WiresOf(net)
		ends, pairs := 0, 0
		for node := range net {
			ends += nodesIn(impl.NearOf(net, 1<<node))
			for other := range node {
				if inSet(net[node], other) {
					pairs++
				}
			}
		}
		if wires != pairs || 2*wires != ends {
			t.Fatalf("%v: %d wires, %d pairs, %d ends", net, wires, pairs, ends)
		}
		if parts := countParts(farTable(net)); wires < len(net)-parts {
			t.Fatalf("%v: %d wires, %d parts", net, wires, parts)
		}
	}
}

func TestWiresOfSomeNets(t *testing.T) {
	wantNumber(t, "one node", impl.WiresOf([]int{0}), 0)
	wantNumber(t, "six nodes alone", impl.WiresOf(make([]int, 6)), 0)
	wantNumber(t, "one wire", impl.WiresOf([]int{2, 1}), 1)
	wantNumber(t, "all that six nodes may have", impl.WiresOf([]int{62, 61, 59, 55, 47, 31}), 15)
}

func TestWiresOfWrong(t *testing.T) {
	for what, net := range wrongNets() {
		wantNumber(t, what, impl.WiresOf(net), -1)
	}
}

// Promise 10.

func TestNoTwoNodesAreFartherApartThanBothFromAThirdOne(t *testing.T) {
	for net := range everyNet() {
		far := farTable(net)
		for node := range net {
			farthest := impl.FarthestOf(net, node)
			if farthest != slices.Max(far[node]) {
				t.Fatalf("%v, %d: %d, not %d", net, node, farthest, slices.Max(far[node]))
			}
			for other, way := range far[node] {
				if way >= 0 && impl.FarthestOf(net, other) > farthest+way {
					t.Fatalf("%v: farther from %d than from %d", net, other, node)
				}
			}
		}
	}
}

func TestFarthestOfSomeNets(t *testing.T) {
	wantNumber(t, "one node", impl.FarthestOf([]int{0}, 0), 0)
	wantNumber(t, "a node beside a path", impl.FarthestOf([]int{2, 5, 2, 0}, 3), 0)
	wantNumber(t, "a path beside a node", impl.FarthestOf([]int{2, 5, 2, 0}, 0), 2)
	wantNumber(t, "a path from its end", impl.FarthestOf([]int{2, 5, 10, 20, 40, 16}, 5), 5)
	wantNumber(t, "a path from within", impl.FarthestOf([]int{2, 5, 10, 20, 40, 16}, 2), 3)
}

func TestFarthestOfWrong(t *testing.T) {
	for what, net := range wrongNets() {
		for _, node := range []int{0, 1, -1, 7} {
			wantNumber(t, what, impl.FarthestOf(net, node), -1)
		}
	}
	for net := range everyWidth() {
		for _, node := range append(wrongNumbers(), len(net), len(net)+1, 63, 65) {
			wantNumber(t, fmt.Sprint(net, node), impl.FarthestOf(net, node), -1)
		}
	}
}

// The general rules: arguments are never written to, and results are new.

func TestNetsAreNotWrittenTo(t *testing.T) {
	ring, path, order := []int{6, 5, 3}, []int{2, 5, 2}, []int{1, 2, 0}
	a, b, names := withSpare(ring), withSpare(path), withSpare(order)
	for range 2 {
		named, _ := impl.NamedNet(a, names)
		joined, _ := impl.JoinedNet(a, b)
		same, _ := impl.JoinedNet(b, b)
		distances, parts := impl.DistancesFrom(a, 1), impl.PartsOf(b)
		wantNumber(t, "near", impl.NearOf(a, 1)+impl.WiresOf(a)+impl.FarthestOf(a, 0), 6+3+1)
		wantRow(t, "named", named, []int{6, 5, 3})
		wantRow(t, "joined", joined, []int{6, 5, 3, 16, 40, 16})
		wantRow(t, "joined with itself", same, []int{2, 5, 2, 16, 40, 16})
		wantRow(t, "distances", distances, []int{0, 1, 1})
		wantRow(t, "parts", parts, []int{0, 0, 0})
		for _, row := range [][]int{named, joined, same, distances, parts} {
			overwrite(row)
		}
		wantUnwritten(t, "the first net", a, ring)
		wantUnwritten(t, "the second net", b, path)
		wantUnwritten(t, "the order", names, order)
	}
}

func TestRingsAndPathsAreNew(t *testing.T) {
	for range 2 {
		ring, path := impl.RingNet(4), impl.PathNet(4)
		wantRow(t, "ring", ring, []int{10, 5, 10, 5})
		wantRow(t, "path", path, []int{2, 5, 10, 4})
		overwrite(ring)
		overwrite(path)
	}
}

// What the document's examples tell of nets alone: a ring of four, and the path that it becomes when its first node and its last one are parted.
func TestNetsOfTheExamples(t *testing.T) {
	ring := []int{1<<1 + 1<<3, 1<<0 + 1<<2, 1<<1 + 1<<3, 1<<0 + 1<<2}
	wantRow(t, "the net of 01,03,12,23", impl.RingNet(4), ring)
	wantRow(t, "far 0", impl.DistancesFrom(ring, 1<<0), []int{0, 1, 2, 1})
	wantRow(t, "the net of 01,12,23", impl.PathNet(4), []int{1 << 1, 1<<0 + 1<<2, 1<<1 + 1<<3, 1 << 2})
}
