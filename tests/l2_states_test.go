package tests

import (
	"fmt"
	"math"
	"slices"
	"testing"

	"loop.example/firingnets/impl"
)

func TestLeastAndMostKinds(t *testing.T) {
	wantNumber(t, "LeastKinds", impl.LeastKinds, 3)
	wantNumber(t, "MaxKinds", impl.MaxKinds, 5)
}

// Promise 11.

func TestAllAtRestIsAState(t *testing.T) {
	for kinds := impl.LeastKinds; kinds <= impl.MaxKinds; kinds++ {
		for nodes := 1; nodes <= impl.MaxNodes; nodes++ {
			if !impl.StateOk(kinds, make([]int, nodes)) {
				t.Fatalf("%d nodes at rest, of %d kinds, are no state", nodes, kinds)
			}
		}
	}
}

func TestAStateOfFewerKindsIsOneOfMore(t *testing.T) {
	for kinds, state := range everyState() {
		for more := kinds; more <= impl.MaxKinds; more++ {
			if !impl.StateOk(more, state) {
				t.Fatalf("%v of %d kinds is none of %d", state, kinds, more)
			}
		}
	}
}

// Rows of a few nodes with all numbers near those of kinds, for all numbers near those of how many kinds there may be.
func TestStateOkOfEveryRow(t *testing.T) {
	for nodes := range 5 {
		row := make([]int, nodes)
		everyRow(row, 0, -2, impl.MaxKinds+1, func() {
			for kinds := -1; kinds <= impl.MaxKinds+2; kinds++ {
				want := nodes >= 1 && kinds >= 3 && kinds <= 5 && slices.Min(row) >= 0 && slices.Max(row) < kinds
				if impl.StateOk(kinds, row) != want {
					t.Fatalf("%v of %d kinds: not %v", row, kinds, want)
				}
			}
		})
	}
}

func TestStateOkOfWrongStates(t *testing.T) {
	for what, wrong := range wrongStates() {
		if impl.StateOk(wrong.kinds, wrong.state) {
			t.Fatalf("%s: %v is a state", what, wrong.state)
		}
	}
}

// Promise 12.

func TestAllNodesAreCounted(t *testing.T) {
	for kinds, state := range everyState() {
		counts := impl.CountsOf(kinds, state)
		if len(counts) != kinds {
			t.Fatalf("%v of %d kinds: %v", state, kinds, counts)
		}
		together := 0
		for kind, count := range counts {
			together += count
			if count != len(slices.DeleteFunc(slices.Clone(state), func(other int) bool { return other != kind })) {
				t.Fatalf("%v of %d kinds: %v, wrong for %d", state, kinds, counts, kind)
			}
		}
		wantNumber(t, "all counts together", together, len(state))
		raised := impl.CountsOf(kinds, impl.RaisedState(kinds, state))
		wantRow(t, "counts of the raised state", raised, append([]int{counts[kinds-1]}, counts[:kinds-1]...))
	}
}

func TestCountsOfSomeStates(t *testing.T) {
	wantRow(t, "one node", impl.CountsOf(3, []int{0}), []int{1, 0, 0})
	wantRow(t, "one node of the last kind", impl.CountsOf(5, []int{4}), []int{0, 0, 0, 0, 1})
	wantRow(t, "six nodes at rest", impl.CountsOf(3, make([]int, 6)), []int{6, 0, 0})
	wantRow(t, "three kinds", impl.CountsOf(3, []int{0, 1, 2, 2}), []int{1, 1, 2})
	wantRow(t, "the same of four", impl.CountsOf(4, []int{0, 1, 2, 2}), []int{1, 1, 2, 0})
	wantRow(t, "six nodes of five kinds", impl.CountsOf(5, []int{4, 3, 2, 1, 0, 4}), []int{1, 1, 1, 1, 2})
}

func TestCountsOfWrong(t *testing.T) {
	for what, wrong := range wrongStates() {
		wantRow(t, what, impl.CountsOf(wrong.kinds, wrong.state), nil)
	}
}

// Promise 13.

func TestLitStatesFireWhereTheyAreLit(t *testing.T) {
	for nodes := 1; nodes <= impl.MaxNodes; nodes++ {
		for set := range 1 << nodes {
			state := impl.LitState(nodes, set)
			if len(state) != nodes {
				t.Fatalf("%d, %b: %v", nodes, set, state)
			}
			for node, kind := range state {
				if (kind == 1) != inSet(set, node) || (kind == 0) == inSet(set, node) {
					t.Fatalf("%d, %b: %v, wrong for %d", nodes, set, state, node)
				}
			}
			wantLitCounts(t, state, nodesIn(set))
		}
	}
}

func wantLitCounts(t *testing.T, state []int, lit int) {
	t.Helper()
	for kinds := impl.LeastKinds; kinds <= impl.MaxKinds; kinds++ {
		if !impl.StateOk(kinds, state) {
			t.Fatalf("%v is no state of %d kinds", state, kinds)
		}
		want := make([]int, kinds)
		want[0], want[1] = len(state)-lit, lit
		wantRow(t, fmt.Sprint("counts of ", state), impl.CountsOf(kinds, state), want)
	}
}

func TestLitStates(t *testing.T) {
	wantRow(t, "one node at rest", impl.LitState(1, 0), []int{0})
	wantRow(t, "one node lit", impl.LitState(1, 1), []int{1})
	wantRow(t, "both ends of three", impl.LitState(3, 5), []int{1, 0, 1})
	wantRow(t, "the second node of four", impl.LitState(4, 2), []int{0, 1, 0, 0})
	wantRow(t, "six nodes at rest", impl.LitState(6, 0), []int{0, 0, 0, 0, 0, 0})
	wantRow(t, "six nodes lit", impl.LitState(6, 63), []int{1, 1, 1, 1, 1, 1})
	wantRow(t, "the last node of six", impl.LitState(6, 32), []int{0, 0, 0, 0, 0, 1})
}

func TestLitStatesWrong(t *testing.T) {
	for _, nodes := range wrongNodes() {
		for _, set := range []int{0, 1, -1, 64} {
			wantRow(t, fmt.Sprint(nodes, set), impl.LitState(nodes, set), nil)
		}
	}
	for nodes := 1; nodes <= impl.MaxNodes; nodes++ {
		for _, set := range append(wrongNumbers(), 1<<nodes, 1<<nodes+1, 1<<nodes+1<<32) {
			wantRow(t, fmt.Sprint(nodes, set), impl.LitState(nodes, set), nil)
		}
	}
}

// Promise 14.

func TestRaisedOnceForEachKindItIsAsBefore(t *testing.T) {
	for kinds, state := range everyState() {
		raised := state
		for time := 1; time <= kinds; time++ {
			raised = impl.RaisedState(kinds, raised)
			want := slices.Clone(state)
			for node := range want {
				want[node] = (want[node] + time) % kinds
			}
			if !impl.StateOk(kinds, raised) || !slices.Equal(raised, want) {
				t.Fatalf("%v of %d kinds, raised %d times: %v, not %v", state, kinds, time, raised, want)
			}
		}
		wantRow(t, "raised once for each kind", raised, state)
	}
}

func TestRaisedStates(t *testing.T) {
	wantRow(t, "one node at rest", impl.RaisedState(3, []int{0}), []int{1})
	wantRow(t, "six nodes at rest", impl.RaisedState(5, make([]int, 6)), []int{1, 1, 1, 1, 1, 1})
	wantRow(t, "three kinds", impl.RaisedState(3, []int{0, 1, 2}), []int{1, 2, 0})
	wantRow(t, "the same of four", impl.RaisedState(4, []int{0, 1, 2}), []int{1, 2, 3})
	wantRow(t, "five kinds", impl.RaisedState(5, []int{4, 3, 2, 1, 0, 4}), []int{0, 4, 3, 2, 1, 0})
}

func TestRaisedStatesWrong(t *testing.T) {
	for what, wrong := range wrongStates() {
		wantRow(t, what, impl.RaisedState(wrong.kinds, wrong.state), nil)
	}
}

// Promise 15.

func TestNamesChangeNoCounts(t *testing.T) {
	place := 0
	for kinds := impl.LeastKinds; kinds <= impl.MaxKinds; kinds++ {
		for nodes := 1; nodes <= impl.MaxNodes; nodes++ {
			orders := ordersOf(nodes)
			for state := range statesOf(nodes, kinds) {
				for range min(len(orders), 24) {
					// 7 shares no divisor with the number of orders, so that each order has its turn.
					place = (place + 7) % len(orders)
					wantNamedState(t, kinds, state, orders[place])
				}
			}
		}
	}
}

func wantNamedState(t *testing.T, kinds int, state, order []int) {
	t.Helper()
	named, ok := impl.NamedState(kinds, state, order)
	if !ok || !impl.StateOk(kinds, named) || len(named) != len(state) {
		t.Fatalf("%v of %d kinds, %v: %v, %v", state, kinds, order, named, ok)
	}
	for node, kind := range state {
		if named[order[node]] != kind {
			t.Fatalf("%v of %d kinds, %v: %v, wrong for %d", state, kinds, order, named, node)
		}
	}
	wantRow(t, "counts under new names", impl.CountsOf(kinds, named), impl.CountsOf(kinds, state))
	after, ok := impl.NamedState(kinds, impl.RaisedState(kinds, state), order)
	if wantRow(t, "raised and named", after, impl.RaisedState(kinds, named)); !ok {
		t.Fatalf("%v of %d kinds, %v: raised it has no names", state, kinds, order)
	}
}

// An order tells for each node its number, not for each number its node: a round of three tells these apart.
func TestNamedStates(t *testing.T) {
	cases := []struct {
		kinds              int
		state, order, want []int
	}{
		{3, []int{0}, []int{0}, []int{0}},
		{5, []int{4}, []int{0}, []int{4}},
		{3, []int{0, 1, 2}, []int{1, 2, 0}, []int{2, 0, 1}},
		{3, []int{0, 1, 2}, []int{2, 0, 1}, []int{1, 2, 0}},
		{3, make([]int, 6), []int{3, 4, 5, 0, 1, 2}, make([]int, 6)},
		{5, []int{0, 1, 2, 3, 4, 4}, []int{5, 4, 3, 2, 1, 0}, []int{4, 4, 3, 2, 1, 0}},
		{4, []int{3, 1, 0, 2}, []int{0, 1, 2, 3}, []int{3, 1, 0, 2}},
	}
	for _, c := range cases {
		named, ok := impl.NamedState(c.kinds, c.state, c.order)
		if wantRow(t, fmt.Sprint(c.state, c.order), named, c.want); !ok {
			t.Fatalf("%v, %v: no state", c.state, c.order)
		}
	}
}

// The names of a state are those of the net: lit nodes stay the same nodes.
func TestStatesAreNamedAsNetsAre(t *testing.T) {
	path := impl.PathNet(4)
	for _, order := range ordersOf(4) {
		net, _ := impl.NamedNet(path, order)
		for set := range 1 << 4 {
			named, _ := impl.NamedState(3, impl.LitState(4, set), order)
			lit := 0
			for node, kind := range named {
				lit += kind << node
			}
			near, _ := impl.NamedState(3, impl.LitState(4, impl.NearOf(path, set)), order)
			wantRow(t, fmt.Sprint("near lit nodes by ", order), near, impl.LitState(4, impl.NearOf(net, lit)))
		}
	}
}

func TestNamedStatesWrong(t *testing.T) {
	for what, wrong := range wrongStates() {
		for nodes := 0; nodes <= impl.MaxNodes+1; nodes++ {
			state, ok := impl.NamedState(wrong.kinds, wrong.state, ordersOf(nodes)[0])
			wantNone(t, what, state, ok)
		}
	}
	for _, order := range wrongOrders() {
		state, ok := impl.NamedState(3, []int{0, 1, 2}, order)
		wantNone(t, fmt.Sprint("by ", order), state, ok)
	}
	for _, number := range wrongNumbers() {
		state, ok := impl.NamedState(3, []int{0, 1, 2}, []int{0, 1, number})
		wantNone(t, fmt.Sprint("with ", number), state, ok)
	}
}

// Promise 16.

func TestEachStateHasANumber(t *testing.T) {
	for kinds, state := range everyState() {
		number := 0
		for node, kind := range state {
			number += kind * power(kinds, node)
		}
		wantNumber(t, fmt.Sprintf("the number of %v of %d kinds", state, kinds), impl.NumberOf(kinds, state), number)
		wantRow(t, "the state of its number", impl.StateOf(len(state), kinds, number), state)
	}
}

func TestNumbersOfSomeStates(t *testing.T) {
	for kinds := impl.LeastKinds; kinds <= impl.MaxKinds; kinds++ {
		for nodes := 1; nodes <= impl.MaxNodes; nodes++ {
			wantNumber(t, "all at rest", impl.NumberOf(kinds, make([]int, nodes)), 0)
			last := slices.Repeat([]int{kinds - 1}, nodes)
			wantNumber(t, "all of the last kind", impl.NumberOf(kinds, last), power(kinds, nodes)-1)
		}
	}
	wantNumber(t, "the first node counts least", impl.NumberOf(3, []int{1, 2}), 7)
	wantNumber(t, "of four kinds", impl.NumberOf(4, []int{1, 2}), 9)
	wantNumber(t, "of three kinds, turned round", impl.NumberOf(3, []int{2, 1}), 5)
	wantNumber(t, "the greatest number", impl.NumberOf(5, []int{4, 4, 4, 4, 4, 4}), 15624)
}

func TestNumberOfWrong(t *testing.T) {
	for what, wrong := range wrongStates() {
		wantNumber(t, what, impl.NumberOf(wrong.kinds, wrong.state), -1)
	}
}

// Promise 17.

func TestEachNumberHasAState(t *testing.T) {
	for kinds := impl.LeastKinds; kinds <= impl.MaxKinds; kinds++ {
		for nodes := 1; nodes <= impl.MaxNodes; nodes++ {
			for number := range power(kinds, nodes) {
				state := impl.StateOf(nodes, kinds, number)
				if !impl.StateOk(kinds, state) || len(state) != nodes || impl.NumberOf(kinds, state) != number {
					t.Fatalf("%d nodes, %d kinds, %d: %v", nodes, kinds, number, state)
				}
			}
		}
	}
}

func TestStatesOfSomeNumbers(t *testing.T) {
	wantRow(t, "one node at rest", impl.StateOf(1, 3, 0), []int{0})
	wantRow(t, "one node of the last kind", impl.StateOf(1, 5, 4), []int{4})
	wantRow(t, "two nodes", impl.StateOf(2, 3, 7), []int{1, 2})
	wantRow(t, "two nodes of four kinds", impl.StateOf(2, 4, 9), []int{1, 2})
	wantRow(t, "six nodes at rest", impl.StateOf(6, 3, 0), make([]int, 6))
	wantRow(t, "the greatest number of three kinds", impl.StateOf(6, 3, 728), []int{2, 2, 2, 2, 2, 2})
	wantRow(t, "the greatest number of four kinds", impl.StateOf(6, 4, 4095), []int{3, 3, 3, 3, 3, 3})
	wantRow(t, "the greatest number", impl.StateOf(6, 5, 15624), []int{4, 4, 4, 4, 4, 4})
}

func TestStateOfNoNumber(t *testing.T) {
	for kinds := impl.LeastKinds; kinds <= impl.MaxKinds; kinds++ {
		for nodes := 1; nodes <= impl.MaxNodes; nodes++ {
			all := power(kinds, nodes)
			for _, number := range []int{all, all + 1, 2 * all, all * kinds, 1 << 32, 1 << 62, math.MaxInt, -1, -2, -all, math.MinInt} {
				wantRow(t, fmt.Sprint(nodes, kinds, number), impl.StateOf(nodes, kinds, number), nil)
			}
		}
	}
}

func TestStateOfWrong(t *testing.T) {
	for _, number := range []int{0, 1, 728, -1} {
		for _, nodes := range wrongNodes() {
			wantRow(t, fmt.Sprint(nodes, number), impl.StateOf(nodes, 3, number), nil)
		}
		for _, kinds := range wrongKinds() {
			wantRow(t, fmt.Sprint(kinds, number), impl.StateOf(6, kinds, number), nil)
		}
	}
}

// The general rules: arguments are never written to, and results are new.

func TestStatesAreNotWrittenTo(t *testing.T) {
	state, order := []int{0, 1, 2}, []int{1, 2, 0}
	given, names := withSpare(state), withSpare(order)
	for range 2 {
		counts, raised := impl.CountsOf(3, given), impl.RaisedState(3, given)
		named, _ := impl.NamedState(3, given, names)
		wantRow(t, "counts", counts, []int{1, 1, 1})
		wantRow(t, "raised", raised, []int{1, 2, 0})
		wantRow(t, "named", named, []int{2, 0, 1})
		wantNumber(t, "number", impl.NumberOf(3, given), 21)
		if !impl.StateOk(3, given) {
			t.Fatalf("%v is no state", given)
		}
		for _, row := range [][]int{counts, raised, named} {
			overwrite(row)
		}
		wantUnwritten(t, "the state", given, state)
		wantUnwritten(t, "the order", names, order)
	}
}

func TestLitAndNumberedStatesAreNew(t *testing.T) {
	for range 2 {
		lit, rest, numbered := impl.LitState(3, 5), impl.LitState(3, 0), impl.StateOf(3, 3, 21)
		wantRow(t, "lit", lit, []int{1, 0, 1})
		wantRow(t, "at rest", rest, []int{0, 0, 0})
		wantRow(t, "numbered", numbered, []int{0, 1, 2})
		for _, row := range [][]int{lit, rest, numbered} {
			overwrite(row)
		}
	}
}

// What the document's examples tell of a state alone: 0122 of three kinds, and 2200 behind a step.
func TestStatesOfTheExamples(t *testing.T) {
	wantRow(t, "counts of 0122", impl.CountsOf(3, []int{0, 1, 2, 2}), []int{1, 1, 2})
	wantNumber(t, "the number of 0122", impl.NumberOf(3, []int{0, 1, 2, 2}), 0+3+18+54)
	wantRow(t, "the state 2200", impl.StateOf(4, 3, 8), []int{2, 2, 0, 0})
}
