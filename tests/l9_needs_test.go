package tests

import (
	"fmt"
	"iter"
	"math"
	"slices"
	"testing"

	"loop.example/firingnets/impl"
)

// needy is a net with what its nodes need.
type needy struct{ net, needs []int }

// needFiring is a state of so many kinds of the nodes of a net, which fires with needs.
type needFiring struct {
	needy
	kinds int
	state []int
}

// drawer draws numbers from 0 on, and less than a given one, the same ones each time.
func drawer() func(below int) int {
	number := 1
	return func(below int) int {
		number = (number*1103515245 + 12345) % (1 << 31)
		// The high digits of such numbers are as good as drawn.
		return number >> 12 % below
	}
}

// needsOf tells all needs of so many nodes.
func needsOf(nodes int) iter.Seq[[]int] {
	return func(yield func([]int) bool) {
		row := make([]int, nodes)
		more := true
		everyRow(row, 0, 1, impl.MaxNodes, func() {
			more = more && yield(slices.Clone(row))
		})
	}
}

// everyNeeds tells all needs on all nets of one node to four, drawn ones on each net of more nodes, and more of them on one net of six nodes of each shape.
func everyNeeds() iter.Seq[needy] {
	return func(yield func(needy) bool) {
		for nodes := 1; nodes <= 4; nodes++ {
			if !allNeedsOn(nodes, yield) {
				return
			}
		}
		draw := drawer()
		if drawnNeedsOn(netsOf(5), 24, draw, yield) && drawnNeedsOn(netsOf(6), 1, draw, yield) {
			drawnNeedsOn(shapesOf(6), 48, draw, yield)
		}
	}
}

func allNeedsOn(nodes int, yield func(needy) bool) bool {
	for net := range netsOf(nodes) {
		for needs := range needsOf(nodes) {
			if !yield(needy{net, needs}) {
				return false
			}
		}
	}
	return true
}

func drawnNeedsOn(nets iter.Seq[[]int], often int, draw func(int) int, yield func(needy) bool) bool {
	for net := range nets {
		for range often {
			if !yield(needy{net, drawnNeeds(len(net), draw)}) {
				return false
			}
		}
	}
	return true
}

// drawnNeeds are at most a drawn number, for many great ones would light little.
func drawnNeeds(nodes int, draw func(int) int) []int {
	most := draw(impl.MaxNodes) + 1
	needs := make([]int, nodes)
	for node := range needs {
		needs[node] = draw(most) + 1
	}
	return needs
}

// everyNeedFiring tells on nets of one node to three all states with all needs, and for each other needy one drawn state of each number of kinds.
func everyNeedFiring() iter.Seq[needFiring] {
	return func(yield func(needFiring) bool) {
		draw := drawer()
		for n := range everyNeeds() {
			for kinds := impl.LeastKinds; kinds <= impl.MaxKinds; kinds++ {
				if !needFiringsOf(n, kinds, draw, yield) {
					return
				}
			}
		}
	}
}

func needFiringsOf(n needy, kinds int, draw func(int) int, yield func(needFiring) bool) bool {
	if len(n.net) > 3 {
		state := digitsOf(len(n.net), kinds, draw(power(kinds, len(n.net))))
		return yield(needFiring{n, kinds, state})
	}
	for state := range statesOf(len(n.net), kinds) {
		if !yield(needFiring{n, kinds, state}) {
			return false
		}
	}
	return true
}

// fewNeedFirings tells each 37th one, for tests with all numbers of steps.
func fewNeedFirings() iter.Seq[needFiring] {
	return func(yield func(needFiring) bool) {
		place := 0
		for f := range everyNeedFiring() {
			if place++; place%37 == 0 && !yield(f) {
				return
			}
		}
	}
}

func ones(nodes int) []int {
	return slices.Repeat([]int{1}, nodes)
}

// countBeside has how many neighbours of a node are in a set, told pair by pair.
func countBeside(net []int, set, node int) int {
	count := 0
	for other := range net {
		if inSet(set, other) && inSet(net[node], other) {
			count++
		}
	}
	return count
}

// needStepBy has the state behind a step with needs, told node by node.
func needStepBy(f needFiring) []int {
	fires := 0
	for node, kind := range f.state {
		if kind == 1 {
			fires += 1 << node
		}
	}
	after := make([]int, len(f.state))
	for node, kind := range f.state {
		switch {
		case kind > 0 && kind < f.kinds-1:
			after[node] = kind + 1
		case kind == 0 && countBeside(f.net, fires, node) >= f.needs[node]:
			after[node] = 1
		}
	}
	return after
}

func needHistoryBy(f needFiring, steps int) [][]int {
	return historyFrom(f.state, steps, func(now []int) []int { return needStepBy(needFiring{f.needy, f.kinds, now}) })
}

// growthBy has the sets that are lit behind no steps, one, and so on, up to the last one.
func growthBy(n needy, set int) []int {
	growth := []int{set}
	for {
		after := set
		for node, need := range n.needs {
			if !inSet(set, node) && countBeside(n.net, set, node) >= need {
				after += 1 << node
			}
		}
		if after == set {
			return growth
		}
		set = after
		growth = append(growth, set)
	}
}

// stayingSets are those from which nothing more is lit.
func stayingSets(n needy) []int {
	var sets []int
	for set := range 1 << len(n.net) {
		if len(growthBy(n, set)) == 1 {
			sets = append(sets, set)
		}
	}
	return sets
}

// litTable has for each set what is lit in the end, by another way than step by step: it is what is in each set that stays and that has all of the first one.
func litTable(n needy) []int {
	table := make([]int, 1<<len(n.net))
	staying := stayingSets(n)
	for set := range table {
		table[set] = len(table) - 1
		for _, other := range staying {
			if set&other == set {
				table[set] &= other
			}
		}
	}
	return table
}

// wrongNeedNumbers are no needs, though some of them are in 32 bits.
func wrongNeedNumbers() []int {
	return []int{0, -1, -2, -6, math.MinInt, impl.MaxNodes + 1, impl.MaxNodes + 2, 60, 1 << 32, 1<<32 + 1, math.MaxInt}
}

// wrongNeeds are none: the net is none, there are too few or too many needs, or one is too small or too great.
func wrongNeeds() map[string]needy {
	wrong := map[string]needy{}
	for what, net := range wrongNets() {
		wrong[what+", and as many needs"] = needy{net, ones(len(net))}
		wrong[what+", and one need"] = needy{net, []int{1}}
		wrong[what+", and most needs"] = needy{net, slices.Repeat([]int{impl.MaxNodes}, impl.MaxNodes)}
		wrong[what+", and no needs"] = needy{net, nil}
	}
	for net := range everyWidth() {
		for others := range impl.MaxNodes + 3 {
			if others != len(net) {
				wrong[fmt.Sprintf("%d nodes, and %d needs", len(net), others)] = needy{net, ones(others)}
				wrong[fmt.Sprintf("%d nodes, and %d great needs", len(net), others)] = needy{net, slices.Repeat([]int{impl.MaxNodes}, others)}
			}
		}
		for place := range net {
			for _, need := range wrongNeedNumbers() {
				needs := ones(len(net))
				needs[place] = need
				wrong[fmt.Sprintf("%d nodes, the need %d at %d", len(net), need, place)] = needy{net, needs}
			}
		}
	}
	return wrong
}

// wrongNeedFirings are none: the needs are none, or the state is none of so many kinds of the nodes.
func wrongNeedFirings() map[string]needFiring {
	wrong := map[string]needFiring{}
	for what, n := range wrongNeeds() {
		for _, kinds := range []int{3, 5} {
			wrong[fmt.Sprint(what, ", at rest, of kinds ", kinds)] = needFiring{n, kinds, make([]int, len(n.net))}
			wrong[fmt.Sprint(what, ", lit, of kinds ", kinds)] = needFiring{n, kinds, ones(len(n.net))}
		}
		wrong[what+", and a state as long as the needs"] = needFiring{n, 3, make([]int, len(n.needs))}
	}
	for what, f := range wrongFirings() {
		wrong["needs for each node, "+what] = needFiring{needy{f.net, ones(len(f.net))}, f.kinds, f.state}
		wrong["needs for each kind, "+what] = needFiring{needy{f.net, ones(len(f.state))}, f.kinds, f.state}
	}
	return wrong
}

// wrongSetsOf are no sets of so many nodes.
func wrongSetsOf(nodes int) []int {
	return append(wrongNumbers(), 1<<nodes, 1<<nodes+1, 1<<nodes+1<<32, -1<<nodes, -1<<63+1)
}

// wrongOrdersOf are no orders of so many nodes: they leave one out, name one twice, or name one that there is not.
func wrongOrdersOf(nodes int) map[string][]int {
	order := numbersUpTo(nodes)
	wrong := map[string][]int{
		"nil":              nil,
		"the first left":   order[1:],
		"the last left":    order[:nodes-1],
		"one more":         append(slices.Clone(order), nodes),
		"the first again":  append(slices.Clone(order), order[0]),
		"the last again":   append(slices.Clone(order), order[nodes-1]),
		"all twice":        slices.Repeat(order, 2),
		"more than a net":  numbersUpTo(impl.MaxNodes + 1),
		"from 1 on":        changedAt(order, slices.Index(order, 0), nodes),
		"below 0":          changedAt(order, 0, -1),
		"far below 0":      changedAt(order, nodes-1, math.MinInt),
		"far beyond":       changedAt(order, nodes-1, math.MaxInt),
		"right in 32 bits": changedAt(order, 0, order[0]+1<<32),
	}
	for place := range nodes - 1 {
		wrong[fmt.Sprint("twice, at ", place)] = changedAt(order, place, order[place+1])
	}
	return wrong
}

func changedAt(row []int, place, number int) []int {
	changed := slices.Clone(row)
	changed[place] = number
	return changed
}

// Promise 61.

func TestOneIsEnoughForEach(t *testing.T) {
	t.Parallel()
	for net := range everyNet() {
		for needs := range impl.MaxNodes + 2 {
			if ok := impl.NeedsOk(net, ones(needs)); ok != (needs == len(net)) {
				t.Fatalf("%v, %d needs: %v", net, needs, ok)
			}
		}
	}
}

func TestNeedsAreThoseOfAllNetsWithAsManyNodes(t *testing.T) {
	t.Parallel()
	for n := range everyNeeds() {
		for net := range everyWidth() {
			if ok := impl.NeedsOk(net, n.needs); ok != (len(net) == len(n.net)) {
				t.Fatalf("%v of %v: %v", n.needs, net, ok)
			}
		}
		if !impl.NeedsOk(n.net, n.needs) {
			t.Fatalf("%v: no needs", n)
		}
	}
}

func TestNeedsAreFromOneToMaxNodes(t *testing.T) {
	t.Parallel()
	for net := range everyWidth() {
		if len(net) > 4 {
			break
		}
		row := make([]int, len(net))
		everyRow(row, 0, -2, impl.MaxNodes+2, func() {
			want := slices.Min(row) >= 1 && slices.Max(row) <= 6
			if ok := impl.NeedsOk(net, row); ok != want {
				t.Fatalf("%v of %v: %v", row, net, ok)
			}
		})
	}
	wide := impl.PathNet(6)
	if !impl.NeedsOk(wide, []int{1, 2, 3, 4, 5, 6}) || !impl.NeedsOk(wide, []int{6, 6, 6, 6, 6, 6}) {
		t.Fatal("most nodes have no needs")
	}
}

func TestNeedsWrong(t *testing.T) {
	for what, n := range wrongNeeds() {
		if impl.NeedsOk(n.net, n.needs) {
			t.Fatalf("%s: %v are needs", what, n)
		}
	}
}

// Promise 62.

func TestAStepWithNeedsOfEveryFiring(t *testing.T) {
	t.Parallel()
	for f := range everyNeedFiring() {
		after := impl.NeedStep(f.net, f.kinds, f.needs, f.state)
		if want := needStepBy(f); !slices.Equal(after, want) || !impl.StateOk(f.kinds, after) {
			t.Fatalf("%v: %v, not %v", f, after, want)
		}
	}
}

func TestWithNeedsOfOneItFiresAsBefore(t *testing.T) {
	t.Parallel()
	for f := range everyFiring() {
		after, want := impl.NeedStep(f.net, f.kinds, ones(len(f.net)), f.state), impl.FireStep(f.net, f.kinds, f.state)
		if !slices.Equal(after, want) || len(after) != len(f.net) {
			t.Fatalf("%v: %v, not %v", f, after, want)
		}
	}
}

func TestWhatFiresNewlyWithNeedsFiresWithoutAsWell(t *testing.T) {
	t.Parallel()
	for f := range everyNeedFiring() {
		after, before := impl.NeedStep(f.net, f.kinds, f.needs, f.state), impl.FireStep(f.net, f.kinds, f.state)
		for node, kind := range after {
			newly := kind == 1 && f.state[node] == 0
			if newly && before[node] != 1 || f.state[node] > 0 && kind != before[node] {
				t.Fatalf("%v: %v, but without needs %v", f, after, before)
			}
		}
	}
}

func TestNeedSteps(t *testing.T) {
	alone, pair, star := make([]int, 6), []int{2, 1}, []int{62, 1, 1, 1, 1, 1}
	cases := []struct {
		what  string
		net   []int
		kinds int
		needs []int
		state []int
		want  []int
	}{
		{"one node at rest", []int{0}, 3, []int{1}, []int{0}, []int{0}},
		{"one node that fires", []int{0}, 3, []int{6}, []int{1}, []int{2}},
		{"one node of the last kind", []int{0}, 5, []int{1}, []int{4}, []int{0}},
		{"nodes without neighbours", alone, 5, []int{1, 2, 3, 4, 5, 6}, []int{0, 1, 2, 3, 4, 0}, []int{0, 2, 3, 4, 0, 0}},
		{"one of a pair, which needs one", pair, 3, []int{6, 1}, []int{1, 0}, []int{2, 1}},
		{"one of a pair, which needs more than all", pair, 3, []int{1, 2}, []int{1, 0}, []int{2, 0}},
		{"one that is tired, though enough fire", pair, 4, []int{1, 1}, []int{2, 1}, []int{3, 2}},
		{"from one side, where two are needed", impl.PathNet(3), 3, []int{1, 2, 1}, []int{1, 0, 0}, []int{2, 0, 0}},
		{"from both sides, where two are needed", impl.PathNet(3), 3, []int{1, 2, 1}, []int{1, 0, 1}, []int{2, 1, 2}},
		{"a tired one does not count", impl.PathNet(3), 3, []int{1, 2, 1}, []int{1, 0, 2}, []int{2, 0, 0}},
		{"all of five", star, 5, []int{5, 1, 1, 1, 1, 1}, []int{0, 1, 1, 1, 1, 1}, []int{1, 2, 2, 2, 2, 2}},
		{"four of five", star, 5, []int{5, 1, 1, 1, 1, 1}, []int{0, 1, 1, 0, 1, 1}, []int{0, 2, 2, 0, 2, 2}},
		{"four of four", star, 5, []int{4, 1, 1, 1, 1, 1}, []int{0, 1, 1, 2, 1, 1}, []int{1, 2, 2, 3, 2, 2}},
		{"five of six, which there are not", star, 4, []int{6, 1, 1, 1, 1, 1}, []int{0, 1, 1, 1, 1, 1}, []int{0, 2, 2, 2, 2, 2}},
		{"each leaf by itself", star, 3, []int{6, 1, 2, 1, 6, 1}, []int{1, 0, 0, 0, 0, 2}, []int{2, 1, 0, 1, 0, 0}},
		{"all fire", impl.RingNet(6), 3, []int{2, 2, 2, 2, 2, 2}, []int{1, 1, 1, 1, 1, 1}, []int{2, 2, 2, 2, 2, 2}},
		{"another part fires", []int{2, 1, 8, 4}, 3, []int{1, 1, 1, 2}, []int{0, 0, 1, 0}, []int{0, 0, 2, 0}},
	}
	for _, c := range cases {
		wantRow(t, c.what, impl.NeedStep(c.net, c.kinds, c.needs, c.state), c.want)
	}
}

func TestNeedStepsWrong(t *testing.T) {
	for what, f := range wrongNeedFirings() {
		wantRow(t, what, impl.NeedStep(f.net, f.kinds, f.needs, f.state), nil)
	}
}

// Promise 63.

func TestMoreLightsAtFirstLightNoFewer(t *testing.T) {
	t.Parallel()
	draw := drawer()
	for n := range everyNeeds() {
		for set := range 1 << len(n.net) {
			lit, steps := impl.SpreadSet(n.net, n.needs, set)
			if lit&set != set || lit >= 1<<len(n.net) || steps < 0 || steps > len(n.net) {
				t.Fatalf("%v from %b: %b, %d", n, set, lit, steps)
			}
			wantSpread(t, n, lit, lit, 0)
			more := set | draw(1<<len(n.net))
			if all, _ := impl.SpreadSet(n.net, n.needs, more); all&lit != lit {
				t.Fatalf("%v from %b: %b, and from %b: %b", n, set, lit, more, all)
			}
		}
	}
}

func wantSpread(t *testing.T, n needy, set, want, wantSteps int) {
	if lit, steps := impl.SpreadSet(n.net, n.needs, set); lit != want || steps != wantSteps {
		t.Fatalf("%v from %b: %b, %d, not %b, %d", n, set, lit, steps, want, wantSteps)
	}
}

func TestWhatIsLitIsLitStepByStep(t *testing.T) {
	t.Parallel()
	for n := range everyNeeds() {
		for set := range 1 << len(n.net) {
			growth := growthBy(n, set)
			wantSpread(t, n, set, growth[len(growth)-1], len(growth)-1)
		}
	}
}

func TestWhatIsLitIsInAllSetsThatStay(t *testing.T) {
	t.Parallel()
	for n := range everyNeeds() {
		for set, want := range litTable(n) {
			if lit, _ := impl.SpreadSet(n.net, n.needs, set); lit != want {
				t.Fatalf("%v from %b: %b, not %b", n, set, lit, want)
			}
		}
	}
}

func TestSpreadSets(t *testing.T) {
	path, ring, star, full := impl.PathNet(6), impl.RingNet(6), []int{62, 1, 1, 1, 1, 1}, []int{62, 61, 59, 55, 47, 31}
	cases := []struct {
		what            string
		net, needs      []int
		set, lit, steps int
	}{
		{"one node without a light", []int{0}, []int{1}, 0, 0, 0},
		{"one node that is lit", []int{0}, []int{1}, 1, 1, 0},
		{"one node that is lit, whatever it needs", []int{0}, []int{6}, 1, 1, 0},
		{"no nodes lit at first", path, ones(6), 0, 0, 0},
		{"all nodes lit at first", path, []int{6, 6, 6, 6, 6, 6}, 63, 63, 0},
		{"nodes without neighbours", make([]int, 6), ones(6), 37, 37, 0},
		{"a path from its end", path, ones(6), 1, 63, 5},
		{"a path from its other end", path, ones(6), 32, 63, 5},
		{"a path from both ends", path, ones(6), 33, 63, 2},
		{"a path, up to the node that needs two", path, []int{1, 1, 1, 2, 1, 1}, 1, 7, 2},
		{"and from the other end as well", path, []int{1, 1, 1, 2, 1, 1}, 33, 63, 3},
		{"a path that needs two at its end", path, []int{1, 1, 1, 1, 1, 2}, 1, 31, 4},
		{"needs beyond all neighbours", impl.PathNet(3), []int{3, 3, 3}, 2, 2, 0},
		{"needs beyond all neighbours, from both sides", impl.PathNet(3), []int{3, 3, 3}, 5, 5, 0},
		{"the greatest needs", path, []int{6, 6, 6, 6, 6, 6}, 31, 31, 0},
		{"a set that does not grow, for all need two", ring, []int{2, 2, 2, 2, 2, 2}, 9, 9, 0},
		{"two beside each other, which do not grow", ring, []int{2, 2, 2, 2, 2, 2}, 3, 3, 0},
		{"a set that does grow, of each second node", ring, []int{2, 2, 2, 2, 2, 2}, 21, 63, 1},
		{"round a ring to a node that needs two", ring, []int{1, 1, 1, 2, 1, 1}, 1, 63, 3},
		{"lit ones stay so for those that wait", full, []int{1, 2, 3, 4, 5, 6}, 32, 63, 5},
		{"from the last node on, backwards", full, []int{5, 4, 3, 2, 1, 6}, 32, 63, 5},
		{"all but the one that needs all others and one more", full, []int{5, 4, 3, 2, 1, 6}, 1, 31, 4},
		{"a star from all leaves", star, []int{5, 1, 1, 1, 1, 1}, 62, 63, 1},
		{"a star from all leaves but one", star, []int{5, 1, 1, 1, 1, 1}, 30, 30, 0},
		{"a star from all leaves that it needs", star, []int{4, 1, 1, 1, 1, 1}, 30, 63, 2},
		{"a star that needs more than there are", star, []int{6, 1, 1, 1, 1, 1}, 62, 62, 0},
		{"two pairs and a node, of which one pair is lit", []int{2, 1, 8, 4, 0}, ones(5), 1, 3, 1},
		{"two pairs and a node, of which all are lit", []int{2, 1, 8, 4, 0}, []int{1, 1, 2, 1, 1}, 25, 27, 1},
	}
	for _, c := range cases {
		lit, steps := impl.SpreadSet(c.net, c.needs, c.set)
		wantNumber(t, c.what, lit, c.lit)
		wantNumber(t, c.what+", steps", steps, c.steps)
	}
}

func TestSpreadSetsWrong(t *testing.T) {
	for what, n := range wrongNeeds() {
		for _, set := range []int{0, 1, 2, -1} {
			wantSpreadsNot(t, fmt.Sprint(what, ", from ", set), n, set)
		}
	}
	for net := range everyWidth() {
		for _, set := range wrongSetsOf(len(net)) {
			wantSpreadsNot(t, fmt.Sprint(net, " from ", set), needy{net, ones(len(net))}, set)
		}
	}
}

func wantSpreadsNot(t *testing.T, what string, n needy, set int) {
	t.Helper()
	lit, steps := impl.SpreadSet(n.net, n.needs, set)
	wantNumber(t, what, lit, -1)
	wantNumber(t, what+", steps", steps, -1)
}

// Promise 64.

func TestNoSmallerSparkLightsAll(t *testing.T) {
	t.Parallel()
	for n := range everyNeeds() {
		all := 1<<len(n.net) - 1
		spark := impl.LeastSpark(n.net, n.needs)
		if lit, _ := impl.SpreadSet(n.net, n.needs, spark); lit != all {
			t.Fatalf("%v from %b: %b", n, spark, lit)
		}
		for node := range n.net {
			if !inSet(spark, node) {
				continue
			}
			if lit, _ := impl.SpreadSet(n.net, n.needs, spark-1<<node); lit == all {
				t.Fatalf("%v from %b, and without %d", n, spark, node)
			}
		}
	}
}

func TestSparksAreTheFewestAndTheLeast(t *testing.T) {
	t.Parallel()
	for n := range everyNeeds() {
		want := 1<<len(n.net) - 1
		for set, lit := range litTable(n) {
			fewer := nodesIn(set) - nodesIn(want)
			if lit == 1<<len(n.net)-1 && (fewer < 0 || fewer == 0 && set < want) {
				want = set
			}
		}
		if spark := impl.LeastSpark(n.net, n.needs); spark != want {
			t.Fatalf("%v: %b, not %b", n, spark, want)
		}
	}
}

func TestSparksOfOneHaveOneNodeForEachPart(t *testing.T) {
	t.Parallel()
	for net := range everyNet() {
		spark := impl.LeastSpark(net, ones(len(net)))
		parts := impl.PartsOf(net)
		want := 0
		for _, least := range parts {
			want |= 1 << least
		}
		// The least node of each part lights it as well as any other one does.
		if spark != want || nodesIn(spark) != countParts(farTable(net)) {
			t.Fatalf("%v: %b, not %b", net, spark, want)
		}
	}
}

func TestLeastSparks(t *testing.T) {
	path, ring, star, four := impl.PathNet(6), impl.RingNet(6), []int{62, 1, 1, 1, 1, 1}, []int{14, 13, 11, 7}
	cases := []struct {
		what       string
		net, needs []int
		want       int
	}{
		{"one node", []int{0}, []int{1}, 1},
		{"one node, whatever it needs", []int{0}, []int{6}, 1},
		{"nodes without neighbours", make([]int, 6), ones(6), 63},
		{"needs beyond all neighbours", path, []int{3, 3, 3, 3, 3, 3}, 63},
		{"the greatest needs", path, []int{6, 6, 6, 6, 6, 6}, 63},
		{"a path", path, ones(6), 1},
		{"a path, of which the ends need two", path, []int{2, 1, 1, 1, 1, 2}, 33},
		{"a path, of which the last node needs two", path, []int{1, 1, 1, 1, 1, 2}, 32},
		{"a path of which all need two", path, []int{2, 2, 2, 2, 2, 2}, 43},
		{"a path whose node needs two", path, []int{1, 1, 2, 1, 1, 1}, 4},
		{"a ring", ring, ones(6), 1},
		{"a ring of which all need two", ring, []int{2, 2, 2, 2, 2, 2}, 21},
		{"a ring of which one needs two", ring, []int{2, 1, 1, 1, 1, 1}, 1},
		{"a ring of which one needs three", ring, []int{1, 1, 1, 1, 3, 1}, 16},
		{"all are neighbours, and need one", four, ones(4), 1},
		{"all are neighbours, and need two", four, []int{2, 2, 2, 2}, 3},
		{"all are neighbours, and need three", four, []int{3, 3, 3, 3}, 7},
		{"all are neighbours, and need four", four, []int{4, 4, 4, 4}, 15},
		{"a star from its middle", star, []int{6, 1, 1, 1, 1, 1}, 1},
		{"a star whose leaves need two", star, []int{1, 2, 2, 2, 2, 2}, 62},
		{"a star of which one leaf needs all", star, []int{1, 1, 1, 1, 1, 6}, 32},
		{"several parts", []int{2, 5, 2, 16, 8, 0}, ones(6), 41},
		{"several parts, of which some need more", []int{2, 5, 2, 16, 8, 0}, []int{1, 2, 1, 1, 2, 6}, 50},
	}
	for _, c := range cases {
		wantNumber(t, c.what, impl.LeastSpark(c.net, c.needs), c.want)
	}
}

func TestLeastSparksWrong(t *testing.T) {
	for what, n := range wrongNeeds() {
		wantNumber(t, what, impl.LeastSpark(n.net, n.needs), -1)
	}
}

// Promise 65.

func TestInAnyOrderTheSameAreLit(t *testing.T) {
	t.Parallel()
	drawn := orderDrawer()
	for n := range everyNeeds() {
		orders := drawn(len(n.net))
		for set, want := range litTable(n) {
			lit, _ := impl.SpreadSet(n.net, n.needs, set)
			order := orders[set%len(orders)]
			if one := impl.OneByOne(n.net, n.needs, set, order); one != lit || one != want {
				t.Fatalf("%v from %b by %v: %b, not %b or %b", n, set, order, one, lit, want)
			}
		}
	}
}

func TestForwardsAndBackwardsTheSameAreLit(t *testing.T) {
	t.Parallel()
	for n := range everyNeeds() {
		forwards := numbersUpTo(len(n.net))
		for set := range 1 << len(n.net) {
			lit, _ := impl.SpreadSet(n.net, n.needs, set)
			there, back := impl.OneByOne(n.net, n.needs, set, forwards), impl.OneByOne(n.net, n.needs, set, backwards(forwards))
			if there != lit || back != lit {
				t.Fatalf("%v from %b: %b and %b, not %b", n, set, there, back, lit)
			}
		}
	}
}

// numbersUpTo has so many numbers, from 0 on.
func numbersUpTo(numbers int) []int {
	row := make([]int, numbers)
	for place := range row {
		row[place] = place
	}
	return row
}

func TestInAllOrdersTheSameAreLit(t *testing.T) {
	t.Parallel()
	for net := range everyNet() {
		// Beyond four nodes all orders of a net would be too many, but for those of a path and a ring.
		if len(net) > 4 && !slices.Equal(net, impl.PathNet(len(net))) && !slices.Equal(net, impl.RingNet(len(net))) {
			continue
		}
		for _, n := range []needy{{net, ones(len(net))}, {net, slices.Repeat([]int{2}, len(net))}} {
			table := litTable(n)
			for _, order := range ordersOf(len(net)) {
				wantLitBy(t, n, order, table)
			}
		}
	}
}

func wantLitBy(t *testing.T, n needy, order, table []int) {
	for set, want := range table {
		if lit := impl.OneByOne(n.net, n.needs, set, order); lit != want {
			t.Fatalf("%v from %b by %v: %b, not %b", n, set, order, lit, want)
		}
	}
}

func TestOneByOnes(t *testing.T) {
	path, full := impl.PathNet(6), []int{62, 61, 59, 55, 47, 31}
	forwards, back := []int{0, 1, 2, 3, 4, 5}, []int{5, 4, 3, 2, 1, 0}
	cases := []struct {
		what              string
		net, needs, order []int
		set, want         int
	}{
		{"one node without a light", []int{0}, []int{1}, []int{0}, 0, 0},
		{"one node that is lit", []int{0}, []int{6}, []int{0}, 1, 1},
		{"no nodes lit at first", path, ones(6), forwards, 0, 0},
		{"all nodes lit at first", path, []int{6, 6, 6, 6, 6, 6}, back, 63, 63},
		{"nodes without neighbours", make([]int, 6), ones(6), back, 25, 25},
		{"a path, all in one round", path, ones(6), forwards, 1, 63},
		{"a path, one node a round", path, ones(6), back, 1, 63},
		{"a path, one node a round, from its other end", path, ones(6), forwards, 32, 63},
		{"a path, to and fro", path, ones(6), []int{1, 5, 3, 0, 4, 2}, 4, 63},
		{"a path, up to the node that needs two", path, []int{1, 1, 1, 2, 1, 1}, back, 1, 7},
		{"a path from both ends", path, []int{1, 1, 1, 2, 1, 1}, []int{3, 2, 1, 4, 5, 0}, 33, 63},
		{"needs beyond all neighbours", path, []int{3, 3, 3, 3, 3, 3}, forwards, 42, 42},
		{"those that wait for all others, in one round", full, []int{1, 2, 3, 4, 5, 6}, forwards, 32, 63},
		{"those that wait for all others, in many rounds", full, []int{1, 2, 3, 4, 5, 6}, back, 32, 63},
		{"all but the one that needs one more", full, []int{5, 4, 3, 2, 1, 6}, back, 1, 31},
		{"two pairs and a node", []int{2, 1, 8, 4, 0}, []int{1, 1, 2, 1, 1}, []int{4, 2, 0, 3, 1}, 6, 15},
	}
	for _, c := range cases {
		wantNumber(t, c.what, impl.OneByOne(c.net, c.needs, c.set, c.order), c.want)
	}
}

func TestOneByOnesWrong(t *testing.T) {
	for what, n := range wrongNeeds() {
		for _, set := range []int{0, 1, 2, -1} {
			nodes := min(len(n.net), impl.MaxNodes+1)
			wantNumber(t, fmt.Sprint(what, ", from ", set), impl.OneByOne(n.net, n.needs, set, numbersUpTo(nodes)), -1)
		}
	}
	for net := range everyWidth() {
		for _, set := range wrongSetsOf(len(net)) {
			wantNumber(t, fmt.Sprint(net, " from ", set), impl.OneByOne(net, ones(len(net)), set, numbersUpTo(len(net))), -1)
		}
		for what, order := range wrongOrdersOf(len(net)) {
			for _, set := range []int{0, 1, 1<<len(net) - 1} {
				wantNumber(t, fmt.Sprint(net, " from ", set, ", ", what), impl.OneByOne(net, ones(len(net)), set, order), -1)
			}
		}
	}
	for _, order := range wrongOrders() {
		wantNumber(t, fmt.Sprint("by ", order), impl.OneByOne([]int{2, 5, 2}, []int{1, 2, 1}, 2, order), -1)
	}
}

// Promise 66.

func TestRunsWithNeedsAreMadeOfRuns(t *testing.T) {
	t.Parallel()
	steps := 0
	for f := range everyNeedFiring() {
		// 7 and 61 share no divisor, so that each number of steps has its turn.
		steps = (steps + 7) % (impl.MaxRun + 1)
		run := impl.NeedRun(f.net, f.kinds, f.needs, f.state, steps)
		half := impl.NeedRun(f.net, f.kinds, f.needs, f.state, steps/2)
		parts := impl.NeedRun(f.net, f.kinds, f.needs, half, steps-steps/2)
		if !slices.Equal(run, parts) || len(run) != len(f.net) {
			t.Fatalf("%v, %d steps: %v, not %v", f, steps, parts, run)
		}
	}
}

func TestRunsWithNeedsAreStepAfterStep(t *testing.T) {
	t.Parallel()
	for f := range fewNeedFirings() {
		for steps, want := range needHistoryBy(f, impl.MaxRun) {
			if run := impl.NeedRun(f.net, f.kinds, f.needs, f.state, steps); !slices.Equal(run, want) {
				t.Fatalf("%v, %d steps: %v, not %v", f, steps, run, want)
			}
		}
	}
}

func TestRunsWithNeedsOfOneAreRuns(t *testing.T) {
	t.Parallel()
	steps := 0
	for f := range everyFiring() {
		// 7 and 61 share no divisor, so that each number of steps has its turn.
		steps = (steps + 7) % (impl.MaxRun + 1)
		run, want := impl.NeedRun(f.net, f.kinds, ones(len(f.net)), f.state, steps), impl.FireRun(f.net, f.kinds, f.state, steps)
		if !slices.Equal(run, want) || len(run) != len(f.net) {
			t.Fatalf("%v, %d steps: %v, not %v", f, steps, run, want)
		}
	}
}

func TestNeedRuns(t *testing.T) {
	path, ring, pairs := impl.PathNet(4), impl.RingNet(4), []int{60, 60, 51, 51, 15, 15}
	cases := []struct {
		what  string
		f     needFiring
		steps int
		want  []int
	}{
		{"one node, no steps", needFiring{needy{[]int{0}, []int{6}}, 3, []int{1}}, 0, []int{1}},
		{"one node, most steps", needFiring{needy{[]int{0}, []int{6}}, 3, []int{1}}, 60, []int{0}},
		{"no steps", needFiring{needy{path, []int{1, 2, 3, 6}}, 4, []int{3, 1, 0, 2}}, 0, []int{3, 1, 0, 2}},
		{"one step", needFiring{needy{path, ones(4)}, 4, []int{1, 0, 0, 0}}, 1, []int{2, 1, 0, 0}},
		{"three steps", needFiring{needy{path, ones(4)}, 4, []int{1, 0, 0, 0}}, 3, []int{0, 3, 2, 1}},
		{"three steps, to a node that needs two", needFiring{needy{path, []int{1, 1, 2, 1}}, 4, []int{1, 0, 0, 0}}, 3, []int{0, 3, 0, 0}},
		{"from both ends to a node that needs two", needFiring{needy{impl.PathNet(5), []int{1, 1, 2, 1, 1}}, 3, []int{1, 0, 0, 0, 1}}, 2, []int{0, 2, 1, 2, 0}},
		{"from one end later than from the other one", needFiring{needy{path, []int{1, 2, 1, 1}}, 3, []int{1, 0, 0, 1}}, 2, []int{0, 0, 2, 0}},
		{"most steps round a ring", needFiring{needy{ring, ones(4)}, 3, []int{1, 0, 0, 2}}, 60, []int{1, 0, 0, 2}},
		{"most steps round a ring of which one needs two", needFiring{needy{ring, []int{1, 1, 2, 1}}, 3, []int{1, 0, 0, 2}}, 60, []int{0, 0, 0, 0}},
		{"round pairs, most steps", needFiring{needy{pairs, []int{2, 2, 2, 2, 2, 2}}, 3, []int{1, 1, 0, 0, 2, 2}}, 60, []int{1, 1, 0, 0, 2, 2}},
		{"round pairs, a step fewer", needFiring{needy{pairs, []int{2, 2, 2, 2, 2, 2}}, 3, []int{1, 1, 0, 0, 2, 2}}, 59, []int{0, 0, 2, 2, 1, 1}},
		{"round pairs that need three", needFiring{needy{pairs, []int{3, 3, 3, 3, 3, 3}}, 3, []int{1, 1, 0, 0, 2, 2}}, 60, []int{0, 0, 0, 0, 0, 0}},
		{"most nodes that need most", needFiring{needy{pairs, []int{6, 6, 6, 6, 6, 6}}, 5, []int{1, 1, 1, 1, 1, 0}}, 3, []int{4, 4, 4, 4, 4, 0}},
	}
	for _, c := range cases {
		wantRow(t, c.what, impl.NeedRun(c.f.net, c.f.kinds, c.f.needs, c.f.state, c.steps), c.want)
	}
}

func TestNeedRunsWrong(t *testing.T) {
	for what, f := range wrongNeedFirings() {
		for _, steps := range []int{0, 1, impl.MaxRun, -1} {
			wantRow(t, what, impl.NeedRun(f.net, f.kinds, f.needs, f.state, steps), nil)
		}
	}
	for net := range everyWidth() {
		for _, steps := range wrongSteps() {
			for kinds := impl.LeastKinds; kinds <= impl.MaxKinds; kinds++ {
				wantRow(t, fmt.Sprint(net, kinds, steps), impl.NeedRun(net, kinds, ones(len(net)), make([]int, len(net)), steps), nil)
			}
		}
	}
}

// Promise 67.

func TestWithNeedsOfOneItSpreadsAsAWave(t *testing.T) {
	t.Parallel()
	for net := range everyNet() {
		n, far := needy{net, ones(len(net))}, farTable(net)
		for set := range 1 << len(net) {
			row := impl.DistancesFrom(net, set)
			come, last := 0, 0
			for node, way := range distancesBy(far, set) {
				if way >= 0 {
					come += 1 << node
					last = max(last, way)
				}
			}
			wantSpread(t, n, set, come, last)
			if last != max(slices.Max(row), 0) {
				t.Fatalf("%v from %b: %v, not up to %d", net, set, row, last)
			}
		}
	}
}

// Promise 68.

func TestWithGreaterNeedsNoMoreIsLit(t *testing.T) {
	t.Parallel()
	for n := range everyNeeds() {
		spark := impl.LeastSpark(n.net, n.needs)
		for node, need := range n.needs {
			if need == impl.MaxNodes {
				continue
			}
			more := needy{n.net, changedAt(n.needs, node, need+1)}
			if great := impl.LeastSpark(more.net, more.needs); nodesIn(great) < nodesIn(spark) {
				t.Fatalf("%v: %b, and with more at %d: %b", n, spark, node, great)
			}
			wantNoMoreLit(t, n, more)
		}
	}
}

func wantNoMoreLit(t *testing.T, n, more needy) {
	for set := range 1 << len(n.net) {
		lit, _ := impl.SpreadSet(n.net, n.needs, set)
		// No set is -1, which would have all nodes.
		if fewer, _ := impl.SpreadSet(more.net, more.needs, set); fewer|lit != lit || fewer < 0 {
			t.Fatalf("%v from %b: %b, and %v: %b", n, set, lit, more, fewer)
		}
	}
}

// The general rules: arguments are never written to, and results are new.

func TestNeedsAreNotWrittenTo(t *testing.T) {
	path, wants, kinds, back := []int{2, 5, 10, 20, 8}, []int{1, 1, 2, 1, 6}, []int{1, 0, 0, 0, 2}, []int{4, 3, 2, 1, 0}
	net, needs, state, order := withSpare(path), withSpare(wants), withSpare(kinds), withSpare(back)
	for range 2 {
		step := impl.NeedStep(net, 3, needs, state)
		none, run := impl.NeedRun(net, 3, needs, state, 0), impl.NeedRun(net, 3, needs, state, 2)
		lit, steps := impl.SpreadSet(net, needs, 9)
		wantRow(t, "a step", step, []int{2, 1, 0, 0, 0})
		wantRow(t, "no steps", none, kinds)
		wantRow(t, "a run", run, []int{0, 2, 0, 0, 0})
		wantNumber(t, "what is lit", lit, 15)
		wantNumber(t, "the steps", steps, 2)
		wantNumber(t, "the spark", impl.LeastSpark(net, needs), 17)
		wantNumber(t, "one by one", impl.OneByOne(net, needs, 9, order), 15)
		if !impl.NeedsOk(net, needs) {
			t.Fatal("the needs are none")
		}
		for _, row := range [][]int{step, none, run} {
			overwrite(row)
		}
		wantUnwritten(t, "the net", net, path)
		wantUnwritten(t, "the needs", needs, wants)
		wantUnwritten(t, "the state", state, kinds)
		wantUnwritten(t, "the order", order, back)
	}
}

// A state that stays is not given back itself.
func TestStatesThatStayWithNeedsAreNew(t *testing.T) {
	rest := withSpare([]int{0, 0, 0})
	for range 2 {
		for _, row := range [][]int{impl.NeedStep(impl.PathNet(3), 3, ones(3), rest), impl.NeedRun(impl.PathNet(3), 3, ones(3), rest, 0), impl.NeedRun(impl.PathNet(3), 3, ones(3), rest, 60)} {
			wantRow(t, "at rest", row, []int{0, 0, 0})
			overwrite(row)
			wantUnwritten(t, "the state", rest, []int{0, 0, 0})
		}
	}
}
