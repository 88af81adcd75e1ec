package tests

import (
	"fmt"
	"iter"
	"slices"
	"testing"

	"loop.example/firingnets/impl"
)

// counted is a net, and the number of kinds of the states of it that are counted.
type counted struct {
	net   []int
	kinds int
}

// everyCounted tells all nets of one node to MaxCounted, with each number of kinds.
func everyCounted() iter.Seq[counted] {
	return func(yield func(counted) bool) {
		for nodes := 1; nodes <= impl.MaxCounted; nodes++ {
			for net := range netsOf(nodes) {
				for kinds := impl.LeastKinds; kinds <= impl.MaxKinds; kinds++ {
					if !yield(counted{net, kinds}) {
						return
					}
				}
			}
		}
	}
}

// all has the number of states.
func (c counted) all() int {
	return power(c.kinds, len(c.net))
}

// leads tells for each state the one behind a step, found without the program.
func (c counted) leads() iter.Seq2[[]int, []int] {
	return func(yield func(state, after []int) bool) {
		for state := range statesOf(len(c.net), c.kinds) {
			if !yield(state, stepBy(firing{c.net, c.kinds, state})) {
				return
			}
		}
	}
}

// beforesBy has for each state to which one leads how many do.
func beforesBy(c counted) map[[impl.MaxNodes]int]int {
	befores := map[[impl.MaxNodes]int]int{}
	for _, after := range c.leads() {
		befores[keyOf(after)]++
	}
	return befores
}

// dyingBy counts the states from which all at rest is come to, found back from there: again and again those are added that lead to one that is there.
func dyingBy(c counted) int {
	dying := map[[impl.MaxNodes]int]bool{keyOf(make([]int, len(c.net))): true}
	for more := true; more; {
		more = false
		for state, after := range c.leads() {
			if dying[keyOf(after)] && !dying[keyOf(state)] {
				dying[keyOf(state)], more = true, true
			}
		}
	}
	return len(dying)
}

// loopingBy has the states that are left if again and again just those stay to which one of them leads.
func loopingBy(c counted) [][]int {
	left := slices.Collect(statesOf(len(c.net), c.kinds))
	for {
		var led [][]int
		met := map[[impl.MaxNodes]int]bool{}
		for _, state := range left {
			after := stepBy(firing{c.net, c.kinds, state})
			if !met[keyOf(after)] {
				met[keyOf(after)] = true
				led = append(led, after)
			}
		}
		if len(led) == len(left) {
			return left
		}
		left = led
	}
}

// flatBy counts the states of a wheel that have heights, by climbTable.
func flatBy(net []int) int {
	count := 0
	for state := range statesOf(len(net), impl.Wheel) {
		if _, ok := heightsBy(turning{net, state}); ok {
			count++
		}
	}
	return count
}

// fullNet has so many nodes, each a neighbour of each other one.
func fullNet(nodes int) []int {
	return netOfPairs(nodes, 1<<(nodes*(nodes-1)/2)-1)
}

// litWithoutCause reports whether a node has the kind 1, and no neighbour the kind 2.
func litWithoutCause(net, state []int) bool {
	for node, kind := range state {
		if kind == 1 && !hasKindBeside(net, state, node, 2) {
			return true
		}
	}
	return false
}

func hasKindBeside(net, state []int, node, kind int) bool {
	for other := range net {
		if inSet(net[node], other) && state[other] == kind {
			return true
		}
	}
	return false
}

// wrongCounted are none: the net is none or has too many nodes, or the kinds are none.
func wrongCounted() iter.Seq2[string, counted] {
	return func(yield func(string, counted) bool) {
		for what, net := range wrongNets() {
			for kinds := impl.LeastKinds; kinds <= impl.MaxKinds; kinds++ {
				if !yield(what, counted{net, kinds}) {
					return
				}
			}
		}
		for net := range everyNet() {
			tried := wrongKinds()
			if len(net) > impl.MaxCounted {
				tried = []int{2, 3, 4, 5, 6}
			}
			for _, kinds := range tried {
				if !yield("too many nodes, or wrong kinds", counted{net, kinds}) {
					return
				}
			}
		}
	}
}

func wantNoCount(t *testing.T, count func(net []int, kinds int) int) {
	t.Helper()
	for what, c := range wrongCounted() {
		if got := count(c.net, c.kinds); got != -1 {
			t.Fatalf("%s, %v: %d", what, c, got)
		}
	}
}

// Promise 76.

func TestMostCounted(t *testing.T) {
	wantNumber(t, "MaxCounted", impl.MaxCounted, 4)
}

func TestAllStatesHaveTogetherAsManyBeforeThemAsThereAre(t *testing.T) {
	t.Parallel()
	for c := range everyCounted() {
		befores, together, number := beforesBy(c), 0, 0
		for ; ; number++ {
			state := impl.StateOf(len(c.net), c.kinds, number)
			if len(state) == 0 {
				break
			}
			count := impl.BeforeCount(c.net, c.kinds, state)
			if want := befores[keyOf(state)]; count != want {
				t.Fatalf("%v before %v: %d, not %d", c, state, count, want)
			}
			together += count
		}
		if together != number || number != c.all() {
			t.Fatalf("%v: together %d, of %d states, not %d", c, together, number, c.all())
		}
	}
}

func TestAtLeastOneIsBeforeWhatAStepLeadsTo(t *testing.T) {
	t.Parallel()
	for c := range everyCounted() {
		rest := make([]int, len(c.net))
		if count := impl.BeforeCount(c.net, c.kinds, rest); count < 1 {
			t.Fatalf("%v before all at rest: %d", c, count)
		}
		// With so many states others are told by the test above alone.
		if c.all() > 81 {
			continue
		}
		for state := range statesOf(len(c.net), c.kinds) {
			after := impl.FireStep(c.net, c.kinds, state)
			if count := impl.BeforeCount(c.net, c.kinds, after); count < 1 {
				t.Fatalf("%v before %v, to which %v leads: %d", c, after, state, count)
			}
		}
	}
}

func TestBeforeCounts(t *testing.T) {
	one, alone, pair, path, ring, star := []int{0}, make([]int, 4), impl.PathNet(2), impl.PathNet(4), impl.RingNet(4), []int{14, 1, 1, 1}
	parts := []int{4, 8, 1, 2}
	cases := []struct {
		what string
		f    firing
		want int
	}{
		{"one node at rest", firing{one, 3, []int{0}}, 2},
		{"one node that fires", firing{one, 3, []int{1}}, 0},
		{"one node that is tired", firing{one, 3, []int{2}}, 1},
		{"one node at rest, of most kinds", firing{one, 5, []int{0}}, 2},
		{"one node that fires, of most kinds", firing{one, 5, []int{1}}, 0},
		{"one node that is tired of the last kind", firing{one, 5, []int{4}}, 1},
		{"nodes alone at rest", firing{alone, 3, []int{0, 0, 0, 0}}, 16},
		{"nodes alone at rest, of most kinds", firing{alone, 5, []int{0, 0, 0, 0}}, 16},
		{"nodes alone that are tired", firing{alone, 3, []int{2, 2, 2, 2}}, 1},
		{"nodes alone, two of them at rest", firing{alone, 4, []int{0, 3, 0, 2}}, 4},
		{"nodes alone, one of which fires", firing{alone, 3, []int{0, 0, 0, 1}}, 0},
		{"nodes alone, one of which fires, and one is tired", firing{alone, 3, []int{2, 0, 0, 1}}, 0},
		{"a pair at rest", firing{pair, 3, []int{0, 0}}, 4},
		{"a pair, the first one at rest", firing{pair, 3, []int{0, 2}}, 1},
		{"a pair, the second one at rest", firing{pair, 3, []int{2, 0}}, 1},
		{"a pair, the second one fires behind the first one", firing{pair, 3, []int{2, 1}}, 1},
		{"a pair, the first one fires behind the second one", firing{pair, 3, []int{1, 2}}, 1},
		{"a pair that fires", firing{pair, 3, []int{1, 1}}, 0},
		{"a pair, one fires, and the other one is at rest", firing{pair, 3, []int{1, 0}}, 0},
		{"a pair that is tired", firing{pair, 3, []int{2, 2}}, 1},
		{"a pair, one fires beside one that is tired for longer", firing{pair, 4, []int{1, 3}}, 0},
		{"a pair, one at rest beside one that is tired for longer", firing{pair, 4, []int{0, 3}}, 2},
		{"a path at rest", firing{path, 3, []int{0, 0, 0, 0}}, 16},
		{"a path, a wave from its first node", firing{path, 3, []int{2, 1, 0, 0}}, 4},
		{"a path, the wave at its end", firing{path, 3, []int{0, 0, 2, 1}}, 2},
		{"a path, two waves that part", firing{path, 3, []int{1, 2, 2, 1}}, 1},
		{"a path, one of two lit without cause", firing{path, 3, []int{2, 1, 0, 1}}, 0},
		{"a ring at rest", firing{ring, 4, []int{0, 0, 0, 0}}, 16},
		{"a ring, a wave round it", firing{ring, 4, []int{2, 1, 0, 3}}, 2},
		{"a ring, a wave from one node both ways", firing{ring, 3, []int{2, 1, 0, 1}}, 2},
		{"a ring, one fires, and that across is tired", firing{ring, 3, []int{1, 0, 2, 0}}, 0},
		{"a star, lit from the middle", firing{star, 3, []int{2, 1, 1, 1}}, 1},
		{"a star, lit from one end", firing{star, 3, []int{1, 2, 0, 0}}, 4},
		{"a star, one end lit without cause", firing{star, 3, []int{1, 2, 1, 0}}, 0},
		{"two parts, their nodes by turns", firing{parts, 3, []int{2, 0, 1, 0}}, 4},
		{"two parts, one of which lights no other", firing{parts, 3, []int{2, 1, 0, 0}}, 0},
		{"all are neighbours", firing{fullNet(4), 5, []int{1, 2, 1, 0}}, 1},
		{"all are neighbours, and none is lit", firing{fullNet(4), 5, []int{3, 4, 0, 0}}, 4},
	}
	for _, c := range cases {
		wantNumber(t, c.what, impl.BeforeCount(c.f.net, c.f.kinds, c.f.state), c.want)
	}
}

func TestBeforeCountsWrong(t *testing.T) {
	for what, f := range wrongFirings() {
		wantNumber(t, what, impl.BeforeCount(f.net, f.kinds, f.state), -1)
	}
	for what, c := range wrongCounted() {
		for _, state := range [][]int{make([]int, len(c.net)), slices.Repeat([]int{1}, len(c.net))} {
			if count := impl.BeforeCount(c.net, c.kinds, state); count != -1 {
				t.Fatalf("%s, %v, %v: %d", what, c, state, count)
			}
		}
	}
}

func TestBeforeCountsOfOtherStates(t *testing.T) {
	for c := range everyCounted() {
		for nodes := range impl.MaxNodes + 2 {
			if nodes != len(c.net) {
				wantNumber(t, fmt.Sprintf("%v, a state of %d nodes", c, nodes), impl.BeforeCount(c.net, c.kinds, make([]int, nodes)), -1)
			}
		}
		for node := range c.net {
			for _, kind := range append(wrongNumbers(), c.kinds, c.kinds+1) {
				state := make([]int, len(c.net))
				state[node] = kind
				wantNumber(t, fmt.Sprint(c, state), impl.BeforeCount(c.net, c.kinds, state), -1)
			}
		}
	}
}

// Promise 77.

func TestEdensAreTheStatesWithNoneBefore(t *testing.T) {
	t.Parallel()
	for c := range everyCounted() {
		count := impl.EdenCount(c.net, c.kinds)
		if want := c.all() - len(beforesBy(c)); count != want || count < 1 {
			t.Fatalf("%v: %d, not %d", c, count, want)
		}
		if c.all() > 81 {
			continue
		}
		none := 0
		for state := range statesOf(len(c.net), c.kinds) {
			if impl.BeforeCount(c.net, c.kinds, state) == 0 {
				none++
			}
		}
		if none != count {
			t.Fatalf("%v: %d, though %d have none before them", c, count, none)
		}
	}
}

func TestEdensOfNodesAloneAndOfAllNeighbours(t *testing.T) {
	for kinds := impl.LeastKinds; kinds <= impl.MaxKinds; kinds++ {
		wantNumber(t, fmt.Sprint("one node, of kinds ", kinds), impl.EdenCount([]int{0}, kinds), 1)
		for nodes := 1; nodes <= impl.MaxCounted; nodes++ {
			what := fmt.Sprintf("%d nodes, of %d kinds", nodes, kinds)
			// States in which none fires.
			dark := power(kinds-1, nodes)
			wantNumber(t, what+", alone", impl.EdenCount(make([]int, nodes), kinds), power(kinds, nodes)-dark)
			// Of those without the kind 2, states in which some fire.
			wantNumber(t, what+", all neighbours", impl.EdenCount(fullNet(nodes), kinds), dark-power(kinds-2, nodes))
		}
	}
}

func TestEdenCounts(t *testing.T) {
	cases := []struct {
		what string
		c    counted
		want int
	}{
		{"one node", counted{[]int{0}, 3}, 1},
		{"one node, of most kinds", counted{[]int{0}, 5}, 1},
		{"four nodes alone", counted{make([]int, 4), 3}, 65},
		{"a pair", counted{impl.PathNet(2), 3}, 3},
		{"a pair, of four kinds", counted{impl.PathNet(2), 4}, 5},
		{"a pair, of most kinds", counted{impl.PathNet(2), 5}, 7},
		{"a pair and a node alone", counted{[]int{2, 1, 0}, 3}, 15},
		{"two pairs, their nodes by turns", counted{[]int{4, 8, 1, 2}, 3}, 45},
		{"a ring of three", counted{impl.RingNet(3), 3}, 7},
		{"a ring of four", counted{impl.RingNet(4), 3}, 31},
		{"a ring of four, of most kinds", counted{impl.RingNet(4), 5}, 239},
		{"all of four are neighbours", counted{fullNet(4), 3}, 15},
	}
	for _, c := range cases {
		wantNumber(t, c.what, impl.EdenCount(c.c.net, c.c.kinds), c.want)
	}
}

func TestEdenCountsWrong(t *testing.T) {
	wantNoCount(t, impl.EdenCount)
}

// Promise 78.

func TestWithThreeKindsJustFlatStatesComeToRest(t *testing.T) {
	t.Parallel()
	for nodes := 1; nodes <= impl.MaxCounted; nodes++ {
		all := power(3, nodes)
		wantNumber(t, fmt.Sprint("a path of ", nodes), impl.DyingCount(impl.PathNet(nodes), 3), all)
		for net := range netsOf(nodes) {
			dying, flat := impl.DyingCount(net, 3), impl.FlatCount(net)
			if dying != flat || dying < 1 || dying > all {
				t.Fatalf("%v: %d of %d come to rest, and %d are flat", net, dying, all, flat)
			}
		}
	}
}

func TestDyingAreThoseFromWhichRestIsComeTo(t *testing.T) {
	t.Parallel()
	for c := range everyCounted() {
		dying, ends := impl.DyingCount(c.net, c.kinds), 0
		for state := range statesOf(len(c.net), c.kinds) {
			if impl.EndsAt(c.net, c.kinds, state) >= 0 {
				ends++
			}
		}
		if want := dyingBy(c); dying != want || dying != ends {
			t.Fatalf("%v: %d, not %d, and %d have an end", c, dying, want, ends)
		}
	}
}

func TestDyingCounts(t *testing.T) {
	cases := []struct {
		what string
		c    counted
		want int
	}{
		{"one node", counted{[]int{0}, 3}, 3},
		{"one node, of most kinds", counted{[]int{0}, 5}, 5},
		{"four nodes alone, of most kinds", counted{make([]int, 4), 5}, 625},
		{"a pair", counted{impl.PathNet(2), 3}, 9},
		{"a path of four, of four kinds", counted{impl.PathNet(4), 4}, 256},
		{"a ring of three", counted{impl.RingNet(3), 3}, 21},
		{"a ring of three and a node alone", counted{[]int{6, 5, 3, 0}, 3}, 63},
		{"a ring of three, of more kinds than nodes", counted{impl.RingNet(3), 4}, 64},
		{"a ring of four", counted{impl.RingNet(4), 3}, 57},
		{"a ring of four, of as many kinds", counted{impl.RingNet(4), 4}, 224},
		{"a ring of four, of more kinds than nodes", counted{impl.RingNet(4), 5}, 625},
		{"two triangles, side by side", counted{[]int{14, 5, 11, 5}, 3}, 51},
		{"all of four are neighbours, of four kinds", counted{fullNet(4), 4}, 232},
	}
	for _, c := range cases {
		wantNumber(t, c.what, impl.DyingCount(c.c.net, c.c.kinds), c.want)
	}
}

func TestDyingCountsWrong(t *testing.T) {
	wantNoCount(t, impl.DyingCount)
}

// Promise 79.

func TestLoopsAreLedToLoopsOneToOne(t *testing.T) {
	t.Parallel()
	for c := range everyCounted() {
		loops, dying, eden := impl.LoopCount(c.net, c.kinds), impl.DyingCount(c.net, c.kinds), impl.EdenCount(c.net, c.kinds)
		if loops < 1 || loops > c.all()-eden || (loops == 1) != (dying == c.all()) {
			t.Fatalf("%v, %d states: %d in loops, %d come to rest, and no step leads to %d", c, c.all(), loops, dying, eden)
		}
		looping := loopingBy(c)
		if loops != len(looping) {
			t.Fatalf("%v: %d, not %d", c, loops, len(looping))
		}
		led := map[[impl.MaxNodes]int]bool{}
		for _, state := range looping {
			after := impl.FireStep(c.net, c.kinds, state)
			if before, _ := impl.LoopOf(c.net, c.kinds, after); before != 0 {
				t.Fatalf("%v leads to %v, %d before the loop", state, after, before)
			}
			led[keyOf(after)] = true
		}
		wantNumber(t, fmt.Sprint(c, ", behind the loops"), len(led), loops)
	}
}

func TestLoopCounts(t *testing.T) {
	cases := []struct {
		what string
		c    counted
		want int
	}{
		{"one node", counted{[]int{0}, 3}, 1},
		{"one node, of most kinds", counted{[]int{0}, 5}, 1},
		{"four nodes alone, of most kinds", counted{make([]int, 4), 5}, 1},
		{"a pair", counted{impl.PathNet(2), 3}, 1},
		{"a path of four", counted{impl.PathNet(4), 3}, 1},
		{"a ring of three, three states each way", counted{impl.RingNet(3), 3}, 7},
		{"a ring of three and a node alone", counted{[]int{6, 5, 3, 0}, 3}, 7},
		{"a ring of three, of more kinds than nodes", counted{impl.RingNet(3), 4}, 1},
		{"a ring of four, four states each way", counted{impl.RingNet(4), 3}, 9},
		{"a ring of four, of as many kinds", counted{impl.RingNet(4), 4}, 9},
		{"a ring of four, of more kinds than nodes", counted{impl.RingNet(4), 5}, 1},
		{"two triangles, side by side", counted{[]int{14, 5, 11, 5}, 3}, 19},
		{"all of four are neighbours", counted{fullNet(4), 3}, 37},
		{"all of four are neighbours, of four kinds", counted{fullNet(4), 4}, 25},
	}
	for _, c := range cases {
		wantNumber(t, c.what, impl.LoopCount(c.c.net, c.c.kinds), c.want)
	}
}

func TestLoopCountsWrong(t *testing.T) {
	wantNoCount(t, impl.LoopCount)
}

// Promise 80.

func TestRingsAreFlatWhereTheyDoNotWind(t *testing.T) {
	for nodes := 3; nodes <= impl.MaxCounted; nodes++ {
		flat := impl.FlatCount(impl.RingNet(nodes))
		wantNumber(t, fmt.Sprint("a ring of ", nodes), flat, impl.RingStates(nodes, 0))
		winding := 0
		for by := 1; by <= impl.MaxNodes; by++ {
			winding += impl.RingStates(nodes, by) + impl.RingStates(nodes, -by)
		}
		wantNumber(t, fmt.Sprint("the other states of a ring of ", nodes), power(3, nodes)-flat, winding)
	}
	for nodes := 1; nodes <= impl.MaxCounted; nodes++ {
		wantNumber(t, fmt.Sprint("a path of ", nodes), impl.FlatCount(impl.PathNet(nodes)), power(3, nodes))
		wantNumber(t, fmt.Sprint("nodes alone: ", nodes), impl.FlatCount(make([]int, nodes)), power(3, nodes))
	}
}

func TestFlatAreTheStatesWithHeights(t *testing.T) {
	t.Parallel()
	for nodes := 1; nodes <= impl.MaxCounted; nodes++ {
		for net := range netsOf(nodes) {
			count, flat := impl.FlatCount(net), 0
			for state := range statesOf(nodes, impl.Wheel) {
				if impl.FlatOk(net, state) {
					flat++
				}
			}
			if want := flatBy(net); count != want || count != flat {
				t.Fatalf("%v: %d, not %d, and %d are flat", net, count, want, flat)
			}
		}
	}
}

func TestFlatCounts(t *testing.T) {
	cases := []struct {
		what string
		net  []int
		want int
	}{
		{"one node", []int{0}, 3},
		{"a pair", impl.PathNet(2), 9},
		{"a star", []int{14, 1, 1, 1}, 81},
		{"two pairs, their nodes by turns", []int{4, 8, 1, 2}, 81},
		{"a ring of three", impl.RingNet(3), 21},
		{"a ring of three and a node alone", []int{6, 5, 3, 0}, 63},
		{"a ring of three at the end of a way", []int{2, 13, 10, 6}, 63},
		{"a ring of four", impl.RingNet(4), 57},
		{"two triangles, side by side", []int{14, 5, 11, 5}, 51},
		{"all of four are neighbours: of two kinds at most", fullNet(4), 45},
	}
	for _, c := range cases {
		wantNumber(t, c.what, impl.FlatCount(c.net), c.want)
	}
}

func TestFlatCountsWrong(t *testing.T) {
	for what, net := range wrongNets() {
		wantNumber(t, what, impl.FlatCount(net), -1)
	}
	for net := range everyNet() {
		if len(net) > impl.MaxCounted {
			wantNumber(t, "too many nodes", impl.FlatCount(net), -1)
		}
	}
}

// Promise 81.

// Each node that is at rest, and beside none that was lit just before, may have been at rest or tired of the last kind; of all others the kind before is told.
func TestWhoFiresWasLitBySomebodyWhoIsTiredNow(t *testing.T) {
	t.Parallel()
	for c := range everyCounted() {
		for state := range statesOf(len(c.net), c.kinds) {
			want := 1
			for node, kind := range state {
				if kind == 0 && !hasKindBeside(c.net, state, node, 2) {
					want *= 2
				}
			}
			if litWithoutCause(c.net, state) {
				want = 0
			}
			if count := impl.BeforeCount(c.net, c.kinds, state); count != want {
				t.Fatalf("%v before %v: %d, not %d", c, state, count, want)
			}
		}
	}
}

// All five counts together.

// Side by side each state of the one net goes with each of the other one.
func TestCountsSideBySideAreMultiplied(t *testing.T) {
	for a := range everyCounted() {
		for b := range everyCounted() {
			if a.kinds != b.kinds || len(a.net)+len(b.net) > impl.MaxCounted {
				continue
			}
			net, _ := impl.JoinedNet(a.net, b.net)
			both, one, other := countsOf(counted{net, a.kinds}), countsOf(a), countsOf(b)
			for place, count := range both {
				if count != one[place]*other[place] {
					t.Fatalf("%v and %v: %v, not %v times %v", a, b, both, one, other)
				}
			}
		}
	}
}

// countsOf has how many states are before all at rest, how many are led to, come to rest, are in loops, and are flat.
func countsOf(c counted) []int {
	rest := make([]int, len(c.net))
	return []int{impl.BeforeCount(c.net, c.kinds, rest), c.all() - impl.EdenCount(c.net, c.kinds), impl.DyingCount(c.net, c.kinds), impl.LoopCount(c.net, c.kinds), impl.FlatCount(c.net)}
}

func TestRenamedNetsHaveTheSameCounts(t *testing.T) {
	t.Parallel()
	for kinds := impl.LeastKinds; kinds <= impl.MaxKinds; kinds++ {
		for nodes := 1; nodes <= impl.MaxCounted; nodes++ {
			counts := map[[impl.MaxNodes]int][]int{}
			for net := range netsOf(nodes) {
				counts[keyOf(net)] = countsOf(counted{net, kinds})
			}
			for net := range netsOf(nodes) {
				for _, order := range ordersOf(nodes) {
					wantRow(t, fmt.Sprintf("%v, renamed %v", net, order), counts[keyOf(renamedBy(net, order))], counts[keyOf(net)])
				}
			}
		}
	}
}

// The general rules: arguments are never written to.

func TestCountedNetsAreNotWrittenTo(t *testing.T) {
	ring, kinds := []int{6, 5, 3}, []int{2, 1, 0}
	net, state := withSpare(ring), withSpare(kinds)
	for range 2 {
		wantNumber(t, "before", impl.BeforeCount(net, 3, state), 1)
		wantNumber(t, "edens", impl.EdenCount(net, 3), 7)
		wantNumber(t, "dying", impl.DyingCount(net, 3), 21)
		wantNumber(t, "in loops", impl.LoopCount(net, 3), 7)
		wantNumber(t, "flat", impl.FlatCount(net), 21)
		wantUnwritten(t, "the net", net, ring)
		wantUnwritten(t, "the state", state, kinds)
	}
}
