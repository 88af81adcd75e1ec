package tests

import (
	"fmt"
	"iter"
	"math"
	"slices"
	"testing"

	"loop.example/firingnets/impl"
)

// everyRingState tells all states of Wheel kinds of the nodes of all rings.
func everyRingState() iter.Seq[[]int] {
	return func(yield func([]int) bool) {
		for nodes := 3; nodes <= impl.MaxNodes; nodes++ {
			for state := range statesOf(nodes, impl.Wheel) {
				if !yield(state) {
					return
				}
			}
		}
	}
}

// everyFronts tells all rows of fronts, found without the program.
func everyFronts() iter.Seq[[]int] {
	return func(yield func([]int) bool) {
		for state := range everyRingState() {
			// Fronts are kinds less one.
			row := slices.Clone(state)
			for place := range row {
				row[place]--
			}
			if (countSign(row, 1)-countSign(row, -1))%3 == 0 && !yield(row) {
				return
			}
		}
	}
}

func countSign(row []int, sign int) int {
	count := 0
	for _, front := range row {
		if front == sign {
			count++
		}
	}
	return count
}

// frontsBy has the fronts of a state, told kind by kind.
func frontsBy(state []int) []int {
	row := make([]int, len(state))
	for node := range state {
		row[node] = riseBy(state, node, (node+1)%len(state))
	}
	return row
}

// moveBy has the fronts behind a move, front by front: ups go back, downs go on, and two that meet vanish, at one node or between two.
func moveBy(row []int) []int {
	nodes := len(row)
	ups, downs := make([]int, nodes), make([]int, nodes)
	for place, front := range row {
		before, next := (place+nodes-1)%nodes, (place+1)%nodes
		if front == 1 && row[before] != -1 {
			ups[before]++
		}
		if front == -1 && row[next] != 1 {
			downs[next]++
		}
	}
	moved := make([]int, nodes)
	for place := range moved {
		moved[place] = ups[place] - downs[place]
	}
	return moved
}

// movesOf has a row of fronts behind so many moves of the program.
func movesOf(row []int, moves int) []int {
	for range moves {
		row = impl.FrontStep(row)
	}
	return row
}

// opposite has the other sign for each number of a row.
func opposite(row []int) []int {
	other := make([]int, len(row))
	for place, number := range row {
		other[place] = -number
	}
	return other
}

// frontRows are rows of fronts of all sorts.
func frontRows() map[string][]int {
	return map[string][]int{
		"none on a ring of three":         {0, 0, 0},
		"none on a ring of six":           {0, 0, 0, 0, 0, 0},
		"up everywhere on a ring of 3":    {1, 1, 1},
		"down everywhere on a ring of 3":  {-1, -1, -1},
		"up everywhere on a ring of 6":    {1, 1, 1, 1, 1, 1},
		"down everywhere on a ring of 6":  {-1, -1, -1, -1, -1, -1},
		"one of each on a ring of three":  {1, -1, 0},
		"one of each, at the ends":        {1, 0, 0, 0, 0, -1},
		"one of each, at the other ends":  {-1, 0, 0, 0, 0, 1},
		"by turns on a ring of six":       {1, -1, 1, -1, 1, -1},
		"three ups":                       {1, 0, 1, 0, 1, 0},
		"three downs beside each other":   {0, 0, 0, -1, -1, -1},
		"four ups and one down":           {1, 1, -1, 1, 1},
		"four downs and one up":           {-1, -1, 1, -1, -1},
		"as many as there are, both ways": {1, 1, 1, -1, -1, -1},
	}
}

// wrongFronts are none: of too few or too many fronts, with other numbers, and with a sum that is no multiple of Wheel.
func wrongFronts() map[string][]int {
	wrong := map[string][]int{
		"nil":                      nil,
		"no fronts at all":         {},
		"very many":                make([]int, 1000),
		"too many, of both signs":  {1, -1, 1, -1, 1, -1, 0},
		"too many, nine ups":       {1, 1, 1, 1, 1, 1, 1, 1, 1},
		"two of both signs":        {1, -1},
		"three for one":            {3},
		"beyond both, but 0":       {2, -2, 0},
		"beyond at first":          {2, 1, 0},
		"beyond at last":           {0, 1, 2},
		"beyond down":              {-2, -1, 0},
		"three, but beyond":        {3, 0, 0},
		"three down, but beyond":   {0, 0, -3},
		"beyond among six":         {1, 1, 1, 0, 2, 1},
		"in the round":             {4, 1, 1},
		"in 32 bits":               {1<<32 + 1, 1, 1},
		"nothing in 32 bits":       {1 << 32, 0, 0, 0, 0, 0},
		"the greatest and a least": {math.MaxInt, math.MinInt, 1},
		"the greatest ones":        {math.MaxInt, math.MaxInt, math.MaxInt, math.MaxInt, math.MaxInt, math.MaxInt},
		"the least ones":           {math.MinInt, math.MinInt, math.MinInt, math.MinInt, math.MinInt, math.MinInt},
	}
	for _, fronts := range []int{1, 2, impl.MaxNodes + 1, impl.MaxNodes + 3} {
		for _, front := range []int{-1, 0, 1} {
			wrong[fmt.Sprintf("%d times %d", fronts, front)] = slices.Repeat([]int{front}, fronts)
		}
	}
	for fronts := 3; fronts <= impl.MaxNodes; fronts++ {
		for place := range fronts {
			for _, front := range []int{2, -2, 3, -3, math.MinInt, math.MaxInt, 3 << 32} {
				alone, among := make([]int, fronts), slices.Repeat([]int{1}, fronts)
				alone[place], among[place] = front, front
				wrong[fmt.Sprint("beyond, alone: ", alone)] = alone
				wrong[fmt.Sprint("beyond, among ups: ", among)] = among
			}
		}
		row := make([]int, fronts)
		everyRow(row, 0, -1, 1, func() {
			if (countSign(row, 1)-countSign(row, -1))%3 != 0 {
				wrong[fmt.Sprint("no multiple: ", row)] = slices.Clone(row)
			}
		})
	}
	return wrong
}

// wrongRingStates are none of the nodes of a ring: no states of Wheel kinds, or of fewer nodes than a ring has.
func wrongRingStates() map[string][]int {
	wrong := wrongWheelStates()
	for nodes := 1; nodes < 3; nodes++ {
		for state := range statesOf(nodes, impl.Wheel) {
			wrong[fmt.Sprint("no ring: ", state)] = state
		}
	}
	for nodes := 3; nodes <= impl.MaxNodes; nodes++ {
		for place := range nodes {
			for _, kind := range wrongWheelKinds() {
				state := make([]int, nodes)
				state[place] = kind
				wrong[fmt.Sprint("a wrong kind: ", state)] = state
			}
		}
	}
	for _, kind := range []int{0, 1, 2} {
		wrong[fmt.Sprint("a node too many, all of kind ", kind)] = slices.Repeat([]int{kind}, impl.MaxNodes+1)
	}
	wrong["nine nodes that wind"] = []int{0, 1, 2, 0, 1, 2, 0, 1, 2}
	return wrong
}

// wrongFirsts are no kinds for a first node, though some are in the round.
func wrongFirsts() []int {
	return append(wrongWheelKinds(), -6, 7, -1<<32)
}

// Promise 53.

func TestFrontsTellAStateUpToItsFirstKind(t *testing.T) {
	for state := range everyRingState() {
		row := impl.FrontRow(state)
		if !slices.Equal(row, frontsBy(state)) || !impl.FrontsOk(row) {
			t.Fatalf("%v: %v, not %v", state, row, frontsBy(state))
		}
		for node, front := range row {
			if rise := impl.RiseOf(state, node, (node+1)%len(state)); rise != front {
				t.Fatalf("%v: %v, though one climbs %d from %d on", state, row, rise, node)
			}
		}
		if same := impl.StateOfFronts(state[0], row); !slices.Equal(same, state) {
			t.Fatalf("%v: of %v it is %v", state, row, same)
		}
		if raised := impl.FrontRow(impl.RaisedState(impl.Wheel, state)); !slices.Equal(raised, row) {
			t.Fatalf("%v: %v, and raised %v", state, row, raised)
		}
	}
}

func TestFrontRows(t *testing.T) {
	cases := []struct {
		what        string
		state, want []int
	}{
		{"three of one kind", []int{0, 0, 0}, []int{0, 0, 0}},
		{"three of the last kind", []int{2, 2, 2}, []int{0, 0, 0}},
		{"six of one kind", []int{1, 1, 1, 1, 1, 1}, []int{0, 0, 0, 0, 0, 0}},
		{"up a ring of three", []int{0, 1, 2}, []int{1, 1, 1}},
		{"up it from the last kind on", []int{2, 0, 1}, []int{1, 1, 1}},
		{"down a ring of three", []int{0, 2, 1}, []int{-1, -1, -1}},
		{"two alike of three", []int{0, 1, 1}, []int{1, 0, -1}},
		{"one of three in the middle", []int{0, 1, 0}, []int{1, -1, 0}},
		{"up at the last place", []int{0, 0, 2}, []int{0, -1, 1}},
		{"a ring of four that winds", []int{0, 1, 2, 2}, []int{1, 1, 0, 1}},
		{"a ring of four that does not", []int{0, 1, 0, 2}, []int{1, -1, -1, 1}},
		{"a ring of five", []int{0, 1, 0, 1, 2}, []int{1, -1, 1, 1, 1}},
		{"a ring of six that winds once", []int{0, 0, 1, 1, 2, 2}, []int{0, 1, 0, 1, 0, 1}},
		{"a ring of six that winds twice", []int{0, 1, 2, 0, 1, 2}, []int{1, 1, 1, 1, 1, 1}},
		{"twice back", []int{2, 1, 0, 2, 1, 0}, []int{-1, -1, -1, -1, -1, -1}},
		{"up both sides of a ring of six", []int{0, 1, 2, 0, 2, 1}, []int{1, 1, 1, -1, -1, -1}},
		{"fronts at the first and the last place", []int{1, 2, 2, 2, 2, 2}, []int{1, 0, 0, 0, 0, -1}},
		{"a front at the last place alone, with one beside it", []int{0, 0, 0, 0, 0, 1}, []int{0, 0, 0, 0, 1, -1}},
	}
	for _, c := range cases {
		wantRow(t, c.what, impl.FrontRow(c.state), c.want)
	}
}

func TestFrontRowsWrong(t *testing.T) {
	for what, state := range wrongRingStates() {
		wantRow(t, what, impl.FrontRow(state), nil)
	}
}

// Promise 54.

func TestNoFrontsAreARow(t *testing.T) {
	for fronts := range 3 * impl.MaxNodes {
		if ok := impl.FrontsOk(make([]int, fronts)); ok != (fronts >= 3 && fronts <= impl.MaxNodes) {
			t.Fatalf("%d times 0: %v", fronts, ok)
		}
	}
}

func TestFrontsAreRowsWithTheOtherSignAsWell(t *testing.T) {
	for fronts := range impl.MaxNodes + 2 {
		row := make([]int, fronts)
		everyRow(row, 0, -2, 2, func() {
			want := fronts >= 3 && fronts <= 6 && slices.Min(row) >= -1 && slices.Max(row) <= 1
			want = want && (countSign(row, 1)-countSign(row, -1))%3 == 0
			if impl.FrontsOk(row) != want || impl.FrontsOk(opposite(row)) != want {
				t.Fatalf("%v: not %v", row, want)
			}
		})
	}
}

func TestFrontsOk(t *testing.T) {
	for what, row := range frontRows() {
		if !impl.FrontsOk(row) || !impl.FrontsOk(opposite(row)) {
			t.Fatalf("%s: %v are none", what, row)
		}
	}
}

func TestFrontsOkWrong(t *testing.T) {
	for what, row := range wrongFronts() {
		if impl.FrontsOk(row) || impl.FrontsOk(opposite(row)) {
			t.Fatalf("%s: %v are fronts", what, row)
		}
	}
}

// Promise 55.

func TestTurningIsAGameOfFronts(t *testing.T) {
	for state := range everyRingState() {
		row := impl.FrontRow(state)
		moved := impl.FrontStep(row)
		turned := impl.FrontRow(impl.TurnStep(impl.RingNet(len(state)), state))
		if len(moved) != len(state) || !slices.Equal(moved, turned) {
			t.Fatalf("%v: %v becomes %v, not %v", state, row, moved, turned)
		}
		if by := frontsBy(turnBy(turning{impl.RingNet(len(state)), state})); !slices.Equal(moved, by) {
			t.Fatalf("%v: %v becomes %v, not %v", state, row, moved, by)
		}
	}
}

func TestAMoveIsATurnForEachFirstKind(t *testing.T) {
	for row := range everyFronts() {
		moved := impl.FrontStep(row)
		if !slices.Equal(moved, moveBy(row)) || !impl.FrontsOk(moved) {
			t.Fatalf("%v becomes %v, not %v", row, moved, moveBy(row))
		}
		for first := range impl.Wheel {
			state := impl.StateOfFronts(first, row)
			if turned := impl.FrontRow(impl.TurnStep(impl.RingNet(len(row)), state)); !slices.Equal(turned, moved) {
				t.Fatalf("%v from %d on becomes %v, but turned %v", row, first, moved, turned)
			}
		}
	}
}

func TestAMoveKeepsTheSum(t *testing.T) {
	for row := range everyFronts() {
		moved := impl.FrontStep(row)
		ups, downs := countSign(moved, 1), countSign(moved, -1)
		if ups-downs != countSign(row, 1)-countSign(row, -1) {
			t.Fatalf("%v becomes %v, of another sum", row, moved)
		}
		if ups+downs > countSign(row, 1)+countSign(row, -1) {
			t.Fatalf("%v becomes %v, with more fronts", row, moved)
		}
	}
}

func TestFrontSteps(t *testing.T) {
	cases := []struct {
		what      string
		row, want []int
	}{
		{"none on a ring of three", []int{0, 0, 0}, []int{0, 0, 0}},
		{"none on a ring of six", []int{0, 0, 0, 0, 0, 0}, []int{0, 0, 0, 0, 0, 0}},
		{"up at all places", []int{1, 1, 1}, []int{1, 1, 1}},
		{"down at all places", []int{-1, -1, -1}, []int{-1, -1, -1}},
		{"up at all places of six", []int{1, 1, 1, 1, 1, 1}, []int{1, 1, 1, 1, 1, 1}},
		{"down at all places of six", []int{-1, -1, -1, -1, -1, -1}, []int{-1, -1, -1, -1, -1, -1}},
		{"ups go back", []int{0, 1, 0, 1, 0, 1}, []int{1, 0, 1, 0, 1, 0}},
		{"ups go back from the first place to the last one", []int{1, 0, 1, 0, 1, 0}, []int{0, 1, 0, 1, 0, 1}},
		{"ups beside each other", []int{1, 1, 1, 0, 0}, []int{1, 1, 0, 0, 1}},
		{"downs go on", []int{-1, 0, -1, 0, -1, 0}, []int{0, -1, 0, -1, 0, -1}},
		{"downs go on from the last place to the first one", []int{0, -1, 0, -1, 0, -1}, []int{-1, 0, -1, 0, -1, 0}},
		{"downs beside each other", []int{0, 0, -1, -1, -1}, []int{-1, 0, 0, -1, -1}},
		{"two that meet at one node", []int{-1, 1, 0, 0}, []int{0, 0, 0, 0}},
		{"two that meet at the first node", []int{1, 0, 0, -1}, []int{0, 0, 0, 0}},
		{"two that meet at the last node", []int{0, 0, 0, 0, -1, 1}, []int{0, 0, 0, 0, 0, 0}},
		{"two that meet between two nodes", []int{-1, 0, 1, 0, 0, 0}, []int{0, 0, 0, 0, 0, 0}},
		{"two that meet at the last place", []int{1, 0, 0, 0, -1, 0}, []int{0, 0, 0, 0, 0, 0}},
		{"two that meet at the first place", []int{0, 1, 0, 0, 0, -1}, []int{0, 0, 0, 0, 0, 0}},
		{"two that meet twice as near round a ring of four", []int{1, 0, -1, 0}, []int{0, 0, 0, 0}},
		{"two that meet on a ring of three", []int{1, -1, 0}, []int{0, 0, 0}},
		{"two that meet on a ring of three at once", []int{-1, 1, 0}, []int{0, 0, 0}},
		{"two that go apart", []int{1, -1, 0, 0, 0, 0}, []int{0, 0, -1, 0, 0, 1}},
		{"two that go apart over the first node", []int{-1, 0, 0, 1}, []int{0, -1, 1, 0}},
		{"two that come nearer", []int{-1, 0, 0, 1, 0, 0}, []int{0, -1, 1, 0, 0, 0}},
		{"at the first and the last place, apart", []int{-1, 0, 0, 0, 0, 1}, []int{0, -1, 0, 0, 1, 0}},
		{"by turns, all meet", []int{1, -1, 1, -1, 1, -1}, []int{0, 0, 0, 0, 0, 0}},
		{"by turns on a ring of four", []int{-1, 1, -1, 1}, []int{0, 0, 0, 0}},
		{"one is lost, four were against it", []int{1, 1, -1, 1, 1}, []int{1, 0, 0, 1, 1}},
		{"the same downwards", []int{-1, -1, 1, -1, -1}, []int{-1, -1, 0, 0, -1}},
		{"three against three", []int{1, 1, 1, -1, -1, -1}, []int{1, 1, 0, 0, -1, -1}},
	}
	for _, c := range cases {
		wantRow(t, c.what, impl.FrontStep(c.row), c.want)
	}
}

func TestFrontStepsWrong(t *testing.T) {
	for what, row := range wrongFronts() {
		wantRow(t, what, impl.FrontStep(row), nil)
	}
}

// Promise 56.

func TestEachRowOfFrontsIsOfAState(t *testing.T) {
	for row := range everyFronts() {
		for first := range impl.Wheel {
			state := impl.StateOfFronts(first, row)
			if !impl.StateOk(impl.Wheel, state) || len(state) != len(row) || state[0] != first {
				t.Fatalf("%v from %d on: %v", row, first, state)
			}
			if !slices.Equal(impl.FrontRow(state), row) || !slices.Equal(frontsBy(state), row) {
				t.Fatalf("%v from %d on: %v, which has %v", row, first, state, frontsBy(state))
			}
		}
	}
}

func TestStatesOfFronts(t *testing.T) {
	cases := []struct {
		what  string
		first int
		row   []int
		want  []int
	}{
		{"no fronts", 0, []int{0, 0, 0}, []int{0, 0, 0}},
		{"no fronts, the last kind", 2, []int{0, 0, 0, 0, 0, 0}, []int{2, 2, 2, 2, 2, 2}},
		{"up everywhere", 0, []int{1, 1, 1}, []int{0, 1, 2}},
		{"up everywhere from the last kind on", 2, []int{1, 1, 1}, []int{2, 0, 1}},
		{"down everywhere", 0, []int{-1, -1, -1}, []int{0, 2, 1}},
		{"down everywhere from 1 on", 1, []int{-1, -1, -1}, []int{1, 0, 2}},
		{"twice up a ring of six", 1, []int{1, 1, 1, 1, 1, 1}, []int{1, 2, 0, 1, 2, 0}},
		{"twice down a ring of six", 0, []int{-1, -1, -1, -1, -1, -1}, []int{0, 2, 1, 0, 2, 1}},
		{"one up and one down", 1, []int{1, 0, -1, 0}, []int{1, 2, 2, 1}},
		{"one down at first", 0, []int{-1, 0, 0, 0, 1}, []int{0, 2, 2, 2, 2}},
		{"up at the last place", 2, []int{0, 0, -1, 1}, []int{2, 2, 2, 1}},
		{"up both sides", 0, []int{1, 1, 1, -1, -1, -1}, []int{0, 1, 2, 0, 2, 1}},
	}
	for _, c := range cases {
		wantRow(t, c.what, impl.StateOfFronts(c.first, c.row), c.want)
	}
}

func TestStatesOfFrontsWrong(t *testing.T) {
	for what, row := range wrongFronts() {
		for _, first := range []int{0, 1, 2, 3, -1} {
			wantRow(t, fmt.Sprint(what, " from ", first), impl.StateOfFronts(first, row), nil)
		}
	}
	for what, row := range frontRows() {
		for _, first := range wrongFirsts() {
			wantRow(t, fmt.Sprint(what, " from ", first), impl.StateOfFronts(first, row), nil)
		}
	}
}

// Promise 57.

func TestRoundTheRingItWinds(t *testing.T) {
	for state := range everyRingState() {
		ring := impl.RingNet(len(state))
		winding, ok := impl.RingWinding(state)
		round, told := impl.WindingOf(ring, state, roundTheRing(len(state), 0))
		if fronts := frontsBy(state); !ok || !told || winding != round || 3*winding != countSign(fronts, 1)-countSign(fronts, -1) {
			t.Fatalf("%v: %d, %v, but round the ring %d, %v", state, winding, ok, round, told)
		}
		rests := impl.EndsAt(ring, impl.Wheel, state) >= 0
		if rests != (winding == 0) || impl.FlatOk(ring, state) != rests {
			t.Fatalf("%v winds %d, and comes to rest: %v", state, winding, rests)
		}
	}
}

func TestTurnsAndStepsKeepTheWindingOfARing(t *testing.T) {
	for state := range everyRingState() {
		ring := impl.RingNet(len(state))
		winding, _ := impl.RingWinding(state)
		for _, after := range [][]int{impl.TurnStep(ring, state), impl.FireStep(ring, impl.Wheel, state), impl.RaisedState(impl.Wheel, state)} {
			if same, ok := impl.RingWinding(after); !ok || same != winding {
				t.Fatalf("%v winds %d, and %v then %d, %v", state, winding, after, same, ok)
			}
		}
	}
}

func TestRingWindings(t *testing.T) {
	cases := []struct {
		what  string
		state []int
		want  int
	}{
		{"three of one kind", []int{0, 0, 0}, 0},
		{"six of the last kind", []int{2, 2, 2, 2, 2, 2}, 0},
		{"up a ring of three", []int{0, 1, 2}, 1},
		{"up it from another kind on", []int{1, 2, 0}, 1},
		{"down a ring of three", []int{0, 2, 1}, -1},
		{"two alike of three", []int{0, 1, 1}, 0},
		{"a ring of four", []int{0, 1, 2, 2}, 1},
		{"a ring of four, back", []int{2, 2, 1, 0}, -1},
		{"up and down a ring of four", []int{0, 1, 0, 2}, 0},
		{"a ring of five", []int{0, 1, 0, 1, 2}, 1},
		{"once round a ring of six", []int{0, 0, 1, 1, 2, 2}, 1},
		{"twice in one round", []int{0, 1, 2, 0, 1, 2}, 2},
		{"twice back in one round", []int{2, 1, 0, 2, 1, 0}, -2},
		{"up both sides of a ring of six", []int{0, 1, 2, 0, 2, 1}, 0},
	}
	for _, c := range cases {
		winding, ok := impl.RingWinding(c.state)
		wantNumber(t, c.what, winding, c.want)
		if !ok {
			t.Fatalf("%s: false", c.what)
		}
	}
}

func TestRingWindingsWrong(t *testing.T) {
	for what, state := range wrongRingStates() {
		if winding, ok := impl.RingWinding(state); ok || winding != 0 {
			t.Fatalf("%s: %d, %v", what, winding, ok)
		}
	}
}

// Promise 58.

func TestAllStatesWindSomehow(t *testing.T) {
	for nodes := 3; nodes <= impl.MaxNodes; nodes++ {
		all := 0
		for winding := -impl.MaxNodes; winding <= impl.MaxNodes; winding++ {
			states := impl.RingStates(nodes, winding)
			all += states
			if back := impl.RingStates(nodes, -winding); back != states {
				t.Fatalf("%d nodes: %d states wind %d, and %d back", nodes, states, winding, back)
			}
		}
		wantNumber(t, fmt.Sprint("all states of nodes ", nodes), all, power(3, nodes))
	}
}

func TestCountedOneByOneAsManyStatesWind(t *testing.T) {
	for nodes := 3; nodes <= impl.MaxNodes; nodes++ {
		counts := map[int]int{}
		for number := range power(3, nodes) {
			winding, ok := impl.RingWinding(impl.StateOf(nodes, impl.Wheel, number))
			if !ok {
				t.Fatalf("%d nodes, the state %d: false", nodes, number)
			}
			counts[winding]++
		}
		for winding := -impl.MaxNodes; winding <= impl.MaxNodes; winding++ {
			wantNumber(t, fmt.Sprintf("%d nodes that wind %d", nodes, winding), impl.RingStates(nodes, winding), counts[winding])
		}
	}
}

func TestRingStates(t *testing.T) {
	rows := [][]int{
		{3, 0, 0, 0, 0, 3, 21, 3, 0, 0, 0, 0},
		{4, 0, 0, 0, 0, 12, 57, 12, 0, 0, 0, 0},
		{5, 0, 0, 0, 0, 45, 153, 45, 0, 0, 0, 0},
		{6, 0, 0, 0, 3, 150, 423, 150, 3, 0, 0, 0},
	}
	for _, row := range rows {
		for place, want := range row[1:] {
			winding := place - 5
			wantNumber(t, fmt.Sprintf("%d nodes that wind %d", row[0], winding), impl.RingStates(row[0], winding), want)
		}
		wantNumber(t, "the greatest winding that may be asked for", impl.RingStates(row[0], impl.MaxNodes), 0)
		wantNumber(t, "the least winding that may be asked for", impl.RingStates(row[0], -impl.MaxNodes), 0)
	}
}

func TestRingStatesWrong(t *testing.T) {
	wrongWindings := []int{impl.MaxNodes + 1, -impl.MaxNodes - 1, 12, -12, 1 << 32, -1 << 32, 1 << 62, math.MinInt, math.MaxInt, math.MaxInt/3 + 1, math.MinInt/3 - 1}
	for _, nodes := range append(wrongNodes(), 1, 2, 1<<32+3, 8, 1000) {
		for winding := -impl.MaxNodes; winding <= impl.MaxNodes; winding++ {
			wantNumber(t, fmt.Sprintf("%d nodes, winding %d", nodes, winding), impl.RingStates(nodes, winding), -1)
		}
		for _, winding := range wrongWindings {
			wantNumber(t, fmt.Sprintf("%d nodes, winding %d", nodes, winding), impl.RingStates(nodes, winding), -1)
		}
	}
	for nodes := 3; nodes <= impl.MaxNodes; nodes++ {
		for _, winding := range wrongWindings {
			wantNumber(t, fmt.Sprintf("%d nodes, winding %d", nodes, winding), impl.RingStates(nodes, winding), -1)
		}
	}
}

// Promise 59.

func TestUpsLessDownsNeverChange(t *testing.T) {
	for row := range everyFronts() {
		ups, downs := impl.FrontCount(row, 1), impl.FrontCount(row, -1)
		if ups != countSign(row, 1) || downs != countSign(row, -1) {
			t.Fatalf("%v: %d and %d", row, ups, downs)
		}
		moved := row
		for range row {
			moved = impl.FrontStep(moved)
			nowUp, nowDown := impl.FrontCount(moved, 1), impl.FrontCount(moved, -1)
			if nowUp < 0 || nowDown < 0 || nowUp-nowDown != ups-downs || nowUp > ups || nowDown > downs {
				t.Fatalf("%v has %d and %d, but %v %d and %d", row, ups, downs, moved, nowUp, nowDown)
			}
			ups, downs = nowUp, nowDown
		}
		if min(ups, downs) != 0 {
			t.Fatalf("%v: in the end %v, with %d and %d", row, moved, ups, downs)
		}
	}
}

func TestFrontCounts(t *testing.T) {
	cases := []struct {
		what       string
		row        []int
		ups, downs int
	}{
		{"none", []int{0, 0, 0}, 0, 0},
		{"none of six", []int{0, 0, 0, 0, 0, 0}, 0, 0},
		{"up at all places", []int{1, 1, 1}, 3, 0},
		{"down at all places", []int{-1, -1, -1}, 0, 3},
		{"up at all places of six", []int{1, 1, 1, 1, 1, 1}, 6, 0},
		{"down at all places of six", []int{-1, -1, -1, -1, -1, -1}, 0, 6},
		{"one of each", []int{1, 0, -1, 0}, 1, 1},
		{"at the first and the last place", []int{-1, 0, 0, 0, 0, 1}, 1, 1},
		{"four against one", []int{1, 1, -1, 1, 1}, 4, 1},
		{"one against four", []int{-1, -1, 1, -1, -1}, 1, 4},
		{"three against three", []int{1, -1, -1, -1, 1, 1}, 3, 3},
		{"two against two", []int{1, -1, 0, 1, 0, -1}, 2, 2},
	}
	for _, c := range cases {
		wantNumber(t, c.what+", ups", impl.FrontCount(c.row, 1), c.ups)
		wantNumber(t, c.what+", downs", impl.FrontCount(c.row, -1), c.downs)
	}
}

func TestFrontCountsWrong(t *testing.T) {
	for what, row := range wrongFronts() {
		for _, sign := range []int{1, -1, 0, 2} {
			wantNumber(t, fmt.Sprint(what, ", sign ", sign), impl.FrontCount(row, sign), -1)
		}
	}
	for what, row := range frontRows() {
		for _, sign := range []int{0, 2, -2, 3, -3, 1<<32 + 1, 1<<32 - 1, math.MinInt, math.MaxInt} {
			wantNumber(t, fmt.Sprint(what, ", sign ", sign), impl.FrontCount(row, sign), -1)
		}
	}
}

// Promise 60.

func TestRingsWithoutWindingLoseAllFronts(t *testing.T) {
	for row := range everyFronts() {
		if impl.FrontCount(row, 1) != impl.FrontCount(row, -1) {
			continue
		}
		if end := movesOf(row, len(row)); !slices.Equal(end, make([]int, len(row))) {
			t.Fatalf("%v: in the end %v", row, end)
		}
	}
}

// What is left of more ups goes back for ever, and what is left of more downs goes on.
func TestTheFrontsThatAreMoreGoOnForEver(t *testing.T) {
	for row := range everyFronts() {
		more := impl.FrontCount(row, 1) - impl.FrontCount(row, -1)
		if more == 0 {
			continue
		}
		end := movesOf(row, len(row))
		if impl.FrontCount(end, 1) != max(more, 0) || impl.FrontCount(end, -1) != max(-more, 0) {
			t.Fatalf("%v, with %d more: in the end %v", row, more, end)
		}
		for range 2 * len(row) {
			next := impl.FrontStep(end)
			for place, front := range end {
				to := place - 1
				if more < 0 {
					to = place + 1
				}
				if next[(to+len(row))%len(row)] != front {
					t.Fatalf("%v: %v becomes %v", row, end, next)
				}
			}
			end = next
		}
	}
}

// Without winding a ring stands when its fronts are gone, and not before.
func TestARingStandsWhenItsFrontsAreGone(t *testing.T) {
	for state := range everyRingState() {
		at := impl.StandsAt(impl.RingNet(len(state)), state)
		if at < 0 {
			continue
		}
		none := make([]int, len(state))
		if left := movesOf(impl.FrontRow(state), at); !slices.Equal(left, none) {
			t.Fatalf("%v stands at %d, with %v", state, at, left)
		}
		if at > 0 && slices.Equal(movesOf(impl.FrontRow(state), at-1), none) {
			t.Fatalf("%v stands at %d, without fronts before", state, at)
		}
	}
}

// The general rules: arguments are never written to, and results are new.

func TestFrontsAreNotWrittenTo(t *testing.T) {
	state, fronts := []int{0, 1, 0, 2}, []int{1, -1, -1, 1}
	given, row := withSpare(state), withSpare(fronts)
	for range 2 {
		told, moved := impl.FrontRow(given), impl.FrontStep(row)
		same := impl.StateOfFronts(0, row)
		winding, ok := impl.RingWinding(given)
		wantRow(t, "the fronts", told, fronts)
		wantRow(t, "the move", moved, []int{0, 0, -1, 1})
		wantRow(t, "the state", same, state)
		wantNumber(t, "the winding", winding, 0)
		wantNumber(t, "the ups", impl.FrontCount(row, 1), 2)
		wantNumber(t, "the states", impl.RingStates(4, 1), 12)
		if !ok || !impl.FrontsOk(row) {
			t.Fatal("the row is none")
		}
		for _, result := range [][]int{told, moved, same} {
			overwrite(result)
		}
		wantUnwritten(t, "the state", given, state)
		wantUnwritten(t, "the row", row, fronts)
	}
}

// Rows that a move leaves as they are are not given back themselves.
func TestFrontsThatStayAreNew(t *testing.T) {
	for _, fronts := range [][]int{{0, 0, 0}, {1, 1, 1}, {-1, -1, -1, -1, -1, -1}} {
		row := withSpare(fronts)
		for range 2 {
			moved := impl.FrontStep(row)
			wantRow(t, "the move", moved, fronts)
			overwrite(moved)
			overwrite(impl.StateOfFronts(1, row))
			wantUnwritten(t, "the row", row, fronts)
		}
	}
}

// What the document's examples tell of a ring that never ends: that of 01,03,12,23 with 0122.
func TestFrontsOfTheExamples(t *testing.T) {
	state := []int{0, 1, 2, 2}
	winding, ok := impl.RingWinding(state)
	wantRow(t, "fronts", impl.FrontRow(state), []int{1, 1, 0, 1})
	wantNumber(t, "the winding", winding, 1)
	wantNumber(t, "ends", impl.EndsAt(impl.RingNet(4), impl.Wheel, state), -1)
	if !ok {
		t.Fatal("the ring does not wind")
	}
}
