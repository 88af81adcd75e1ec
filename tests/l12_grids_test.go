package tests

import (
	"fmt"
	"iter"
	"math"
	"slices"
	"testing"

	"loop.example/firingnets/impl"
)

// grid has so many rows and columns.
type grid struct{ rows, columns int }

// everyGrid tells all grids that there are.
func everyGrid() iter.Seq[grid] {
	return func(yield func(grid) bool) {
		for rows := 1; rows <= impl.MaxNodes; rows++ {
			for columns := 1; rows*columns <= impl.MaxNodes; columns++ {
				if !yield(grid{rows, columns}) {
					return
				}
			}
		}
	}
}

// everyGridState tells all states of Wheel kinds of the nodes of all grids.
func everyGridState() iter.Seq2[grid, []int] {
	return func(yield func(grid, []int) bool) {
		for g := range everyGrid() {
			for state := range statesOf(g.nodes(), impl.Wheel) {
				if !yield(g, state) {
					return
				}
			}
		}
	}
}

// squaredGrids are those with squares, and so with a border.
func squaredGrids() []grid {
	return []grid{{2, 2}, {2, 3}, {3, 2}}
}

func (g grid) hasSquares() bool {
	return slices.Contains(squaredGrids(), g)
}

func (g grid) nodes() int {
	return g.rows * g.columns
}

// turned has rows and columns exchanged.
func (g grid) turned() grid {
	return grid{g.columns, g.rows}
}

// far has how far apart two nodes are by their rows and columns, found by going through all places.
func (g grid) far(a, b int) int {
	var rows, columns [impl.MaxNodes]int
	node := 0
	for row := range g.rows {
		for column := range g.columns {
			rows[node], columns[node] = row, column
			node++
		}
	}
	return max(rows[a]-rows[b], rows[b]-rows[a]) + max(columns[a]-columns[b], columns[b]-columns[a])
}

// net has the neighbours told pair by pair.
func (g grid) net() []int {
	net := make([]int, g.nodes())
	for a := range net {
		for b := range net {
			if g.far(a, b) == 1 {
				net[a] += 1 << b
			}
		}
	}
	return net
}

// squares has the tours of four steps back to the least of their nodes that first go to a lesser neighbour of it than that from which they come back.
func (g grid) squares() [][]int {
	var squares [][]int
	net := g.net()
	for node := range net {
		for tour := range toursFrom(net, node, 5) {
			if tour[4] == node && tour[2] != node && tour[1] < tour[3] && slices.Min(tour) == node {
				squares = append(squares, tour)
			}
		}
	}
	return squares
}

// turnedOrder tells for each node its number with rows and columns exchanged.
func (g grid) turnedOrder() []int {
	var order []int
	for row := range g.rows {
		for column := range g.columns {
			order = append(order, column*g.rows+row)
		}
	}
	return order
}

// wrongGrids are none: without rows or columns, with fewer than none, and with too many nodes. For many of them rows times columns is a number of nodes all the same: if both are less than none, or in 64 or in 32 bits.
func wrongGrids() []grid {
	wrong := []grid{
		{1<<62 + 1, 4}, {4, 1<<62 + 1}, {(1<<64 + 2) / 3, 3}, {3, (1<<64 + 5) / 3}, {5, (1<<64 + 4) / 5}, {(1<<64 + 2) / 6, 6},
		{math.MaxInt, math.MaxInt}, {math.MaxInt - 1, math.MaxInt - 1}, {math.MinInt + 1, math.MinInt + 1}, {-math.MaxInt, -1},
		{math.MinInt + 3, 2}, {2, math.MinInt + 3}, {math.MinInt, math.MinInt}, {1 << 32, 1 << 32}, {1 << 62, 4},
		{1<<32 + 2, 3}, {2, 1<<32 + 3}, {1<<32 + 1, 1<<32 + 1}, {1 << 16, 1 << 16},
	}
	for rows := -7; rows <= 40; rows++ {
		for columns := -7; columns <= 40; columns++ {
			if rows < 1 || columns < 1 || rows*columns > impl.MaxNodes {
				wrong = append(wrong, grid{rows, columns})
			}
		}
		for _, other := range wrongNodes() {
			wrong = append(wrong, grid{rows, other}, grid{other, rows})
		}
	}
	for _, rows := range wrongNodes() {
		for _, columns := range wrongNodes() {
			wrong = append(wrong, grid{rows, columns})
		}
	}
	return wrong
}

// gridStates are states of Wheel kinds of each number of nodes, and of one node too many, that wind and that do not.
func gridStates() [][]int {
	states := [][]int{nil, {}}
	for _, row := range [][]int{{0, 0, 0, 0, 0, 0, 0}, {2, 2, 2, 2, 2, 2, 2}, {0, 1, 2, 2, 0, 1, 2}, {0, 1, 1, 2, 2, 1, 0}, {0, 2, 0, 1, 0, 0, 0}} {
		for nodes := 1; nodes <= len(row); nodes++ {
			states = append(states, row[:nodes])
		}
	}
	return states
}

func wantRows(t *testing.T, what string, got, want [][]int) {
	t.Helper()
	if !slices.EqualFunc(got, want, slices.Equal) {
		t.Fatalf("%s: %v, not %v", what, got, want)
	}
}

// Promise 82.

func TestGridsTurnedAreTheSame(t *testing.T) {
	grids := 0
	for g := range everyGrid() {
		grids++
		what := fmt.Sprint("the grid ", g)
		net, turned := impl.GridNet(g.rows, g.columns), impl.GridNet(g.columns, g.rows)
		if !impl.NetOk(net) || !impl.NetOk(turned) {
			t.Fatalf("%s: %v, and turned %v", what, net, turned)
		}
		wantRow(t, what, net, g.net())
		wantRow(t, what+", turned", turned, renamedBy(net, g.turnedOrder()))
		last := g.nodes() - 1
		wantNumber(t, what+", to the last node", impl.DistancesFrom(net, 1)[last], g.rows+g.columns-2)
		wantNumber(t, what+", turned, to the last node", impl.DistancesFrom(turned, 1)[last], g.rows+g.columns-2)
		wantNumber(t, what+", back to the first node", impl.DistancesFrom(net, 1<<last)[0], g.rows+g.columns-2)
	}
	wantNumber(t, "grids", grids, 14)
}

func TestGridNets(t *testing.T) {
	cases := []struct {
		rows, columns int
		want          []int
	}{
		{1, 1, []int{0}},
		{1, 2, []int{2, 1}},
		{1, 3, []int{2, 5, 2}},
		{1, 4, []int{2, 5, 10, 4}},
		{1, 5, []int{2, 5, 10, 20, 8}},
		{1, 6, []int{2, 5, 10, 20, 40, 16}},
		{2, 1, []int{2, 1}},
		{2, 2, []int{6, 9, 9, 6}},
		{2, 3, []int{10, 21, 34, 17, 42, 20}},
		{3, 1, []int{2, 5, 2}},
		{3, 2, []int{6, 9, 25, 38, 36, 24}},
		{4, 1, []int{2, 5, 10, 4}},
		{5, 1, []int{2, 5, 10, 20, 8}},
		{6, 1, []int{2, 5, 10, 20, 40, 16}},
	}
	for _, c := range cases {
		wantRow(t, fmt.Sprint(c.rows, " rows and ", c.columns, " columns"), impl.GridNet(c.rows, c.columns), c.want)
	}
}

func TestGridsOfOneRowOrColumnArePaths(t *testing.T) {
	for nodes := 1; nodes <= impl.MaxNodes; nodes++ {
		wantRow(t, fmt.Sprint("one row of ", nodes), impl.GridNet(1, nodes), impl.PathNet(nodes))
		wantRow(t, fmt.Sprint("one column of ", nodes), impl.GridNet(nodes, 1), impl.PathNet(nodes))
	}
}

func TestGridNetsWrong(t *testing.T) {
	for _, g := range wrongGrids() {
		wantRow(t, fmt.Sprint(g), impl.GridNet(g.rows, g.columns), nil)
	}
}

// Promise 83.

func TestThereIsASquareForEachInnerCorner(t *testing.T) {
	for g := range everyGrid() {
		what := fmt.Sprint("the grid ", g)
		net, tours := impl.GridNet(g.rows, g.columns), impl.SquareTours(g.rows, g.columns)
		wantNumber(t, what, len(tours), (g.rows-1)*(g.columns-1))
		wantRows(t, what, tours, g.squares())
		for _, tour := range tours {
			if !impl.TourOk(net, tour) || len(tour) != 5 || tour[0] != tour[4] {
				t.Fatalf("%s: %v", what, tour)
			}
		}
	}
}

func TestSquareTours(t *testing.T) {
	cases := []struct {
		g    grid
		want [][]int
	}{
		{grid{2, 2}, [][]int{{0, 1, 3, 2, 0}}},
		{grid{2, 3}, [][]int{{0, 1, 4, 3, 0}, {1, 2, 5, 4, 1}}},
		{grid{3, 2}, [][]int{{0, 1, 3, 2, 0}, {2, 3, 5, 4, 2}}},
		{grid{1, 1}, nil},
		{grid{1, 2}, nil},
		{grid{2, 1}, nil},
		{grid{1, 6}, nil},
		{grid{6, 1}, nil},
	}
	for _, c := range cases {
		wantRows(t, fmt.Sprint(c.g), impl.SquareTours(c.g.rows, c.g.columns), c.want)
	}
}

func TestSquareToursWrong(t *testing.T) {
	for _, g := range wrongGrids() {
		wantRows(t, fmt.Sprint(g), impl.SquareTours(g.rows, g.columns), nil)
	}
}

// Promise 84.

func TestRoundTheBorderAllSquaresWindTogether(t *testing.T) {
	for g, state := range everyGridState() {
		what := fmt.Sprint("the grid ", g, " with ", state)
		net, windings := impl.GridNet(g.rows, g.columns), impl.SquareWindings(g.rows, g.columns, state)
		wantNumber(t, what, len(windings), (g.rows-1)*(g.columns-1))
		together, flat := 0, true
		for _, winding := range windings {
			if winding < -1 || winding > 1 {
				t.Fatalf("%s: %v", what, windings)
			}
			together += winding
			flat = flat && winding == 0
		}
		if impl.FlatOk(net, state) != flat {
			t.Fatalf("%s is flat: not %v, with %v", what, flat, windings)
		}
		border := impl.BorderTour(g.rows, g.columns)
		if winding, ok := impl.WindingOf(net, state, border); ok != g.hasSquares() || winding != together {
			t.Fatalf("%s: round %v it is %d, %v, and by all squares %v", what, border, winding, ok, windings)
		}
	}
}

func TestSquareWindingsAreWindingsOfTheirTours(t *testing.T) {
	for g, state := range everyGridState() {
		what := fmt.Sprint("the grid ", g, " with ", state)
		var want []int
		for _, tour := range g.squares() {
			want = append(want, climbBy(state, tour)/3)
		}
		windings := impl.SquareWindings(g.rows, g.columns, state)
		wantRow(t, what, windings, want)
		if _, flat := heightsBy(turning{g.net(), state}); flat != (slices.Max(append(want, 0)) == 0 && slices.Min(append(want, 0)) == 0) {
			t.Fatalf("%s has heights: %v, with %v", what, flat, windings)
		}
		for place, tour := range impl.SquareTours(g.rows, g.columns) {
			wantWinding(t, turning{g.net(), state}, tour, windings[place])
		}
	}
}

// With rows and columns exchanged one goes round each square the other way, and with the last two kinds exchanged one falls where one climbed.
func TestTurnedGridsWindBack(t *testing.T) {
	for g, state := range everyGridState() {
		what := fmt.Sprint("the grid ", g, " with ", state)
		turned, other := make([]int, len(state)), make([]int, len(state))
		for node, name := range g.turnedOrder() {
			turned[name] = state[node]
			other[node] = []int{0, 2, 1}[state[node]]
		}
		back := opposite(impl.SquareWindings(g.rows, g.columns, state))
		wantRow(t, what+", turned", impl.SquareWindings(g.columns, g.rows, turned), back)
		wantRow(t, what+", falling", impl.SquareWindings(g.rows, g.columns, other), back)
	}
}

func TestSquareWindings(t *testing.T) {
	cases := []struct {
		what  string
		g     grid
		state []int
		want  []int
	}{
		{"all at rest", grid{2, 2}, []int{0, 0, 0, 0}, []int{0}},
		{"all of the last kind", grid{2, 2}, []int{2, 2, 2, 2}, []int{0}},
		{"by one", grid{2, 2}, []int{0, 1, 2, 2}, []int{1}},
		{"by one, from the last kind on", grid{2, 2}, []int{2, 0, 2, 1}, []int{1}},
		{"by one back", grid{2, 2}, []int{0, 2, 1, 1}, []int{-1}},
		{"by one back, the first two alike", grid{2, 2}, []int{1, 1, 2, 0}, []int{-1}},
		{"up and down", grid{2, 2}, []int{0, 1, 1, 0}, []int{0}},
		{"all three kinds, but flat", grid{2, 2}, []int{0, 1, 2, 0}, []int{0}},
		{"two rows at rest", grid{2, 3}, []int{0, 0, 0, 0, 0, 0}, []int{0, 0}},
		{"the first one alone", grid{2, 3}, []int{0, 1, 1, 2, 2, 1}, []int{1, 0}},
		{"the first one alone, back", grid{2, 3}, []int{0, 2, 2, 1, 1, 2}, []int{-1, 0}},
		{"the second one alone", grid{2, 3}, []int{0, 0, 1, 0, 2, 2}, []int{0, 1}},
		{"the second one alone, back", grid{2, 3}, []int{1, 1, 0, 1, 2, 2}, []int{0, -1}},
		{"both by one", grid{2, 3}, []int{0, 1, 2, 2, 1, 0}, []int{1, 1}},
		{"both by one back", grid{2, 3}, []int{0, 2, 1, 1, 2, 0}, []int{-1, -1}},
		{"against each other", grid{2, 3}, []int{0, 1, 0, 2, 2, 2}, []int{1, -1}},
		{"against each other, back at first", grid{2, 3}, []int{0, 2, 0, 1, 1, 1}, []int{-1, 1}},
		{"three rows at rest", grid{3, 2}, []int{1, 1, 1, 1, 1, 1}, []int{0, 0}},
		{"the upper one alone", grid{3, 2}, []int{0, 1, 2, 2, 2, 2}, []int{1, 0}},
		{"the lower one alone, back", grid{3, 2}, []int{0, 0, 0, 2, 0, 1}, []int{0, -1}},
		{"both of three rows by one", grid{3, 2}, []int{0, 1, 2, 2, 1, 0}, []int{1, 1}},
		{"one node", grid{1, 1}, []int{1}, nil},
		{"one row that climbs", grid{1, 6}, []int{0, 1, 2, 0, 1, 2}, nil},
		{"one column that climbs", grid{6, 1}, []int{0, 1, 2, 0, 1, 2}, nil},
		{"one row of as many nodes as a square", grid{1, 4}, []int{0, 1, 2, 2}, nil},
	}
	for _, c := range cases {
		wantRow(t, c.what, impl.SquareWindings(c.g.rows, c.g.columns, c.state), c.want)
	}
}

func TestSquareWindingsOfWrongGrids(t *testing.T) {
	for _, g := range wrongGrids() {
		for _, state := range gridStates() {
			wantRow(t, fmt.Sprint(g, state), impl.SquareWindings(g.rows, g.columns, state), nil)
		}
	}
}

func TestSquareWindingsOfWrongStates(t *testing.T) {
	for g := range everyGrid() {
		for _, state := range gridStates() {
			if len(state) != g.nodes() {
				wantRow(t, fmt.Sprint(g, state), impl.SquareWindings(g.rows, g.columns, state), nil)
			}
		}
		for what, state := range wrongWheelStates() {
			wantRow(t, fmt.Sprint(g, what), impl.SquareWindings(g.rows, g.columns, state), nil)
		}
		for node := range g.nodes() {
			for _, kind := range wrongWheelKinds() {
				state := slices.Clone([]int{0, 1, 1, 2, 2, 1}[:g.nodes()])
				state[node] = kind
				wantRow(t, fmt.Sprint(g, state), impl.SquareWindings(g.rows, g.columns, state), nil)
			}
		}
	}
}

// Promise 85.

func TestTheBorderComesBack(t *testing.T) {
	for _, g := range squaredGrids() {
		what := fmt.Sprint("the grid ", g)
		tour := impl.BorderTour(g.rows, g.columns)
		if !impl.TourOk(impl.GridNet(g.rows, g.columns), tour) || tour[0] != 0 || tour[len(tour)-1] != 0 {
			t.Fatalf("%s: %v", what, tour)
		}
		steps := 2*(g.rows+g.columns) - 4
		wantNumber(t, what, len(tour)-1, steps)
		// These grids have no nodes but those of the border.
		met := slices.Sorted(slices.Values(tour[1:]))
		wantNumber(t, what+", nodes", len(slices.Compact(met)), g.nodes())
		wantNumber(t, what+", nodes for steps", g.nodes(), steps)
	}
}

func TestBorderTours(t *testing.T) {
	wantRow(t, "two rows and two columns", impl.BorderTour(2, 2), []int{0, 1, 3, 2, 0})
	wantRow(t, "two rows and three columns", impl.BorderTour(2, 3), []int{0, 1, 2, 5, 4, 3, 0})
	wantRow(t, "three rows and two columns", impl.BorderTour(3, 2), []int{0, 1, 3, 5, 4, 2, 0})
}

func TestGridsOfOneRowOrColumnHaveNoBorder(t *testing.T) {
	for nodes := 1; nodes <= impl.MaxNodes; nodes++ {
		wantRow(t, fmt.Sprint("one row of ", nodes), impl.BorderTour(1, nodes), nil)
		wantRow(t, fmt.Sprint("one column of ", nodes), impl.BorderTour(nodes, 1), nil)
	}
}

func TestBorderToursWrong(t *testing.T) {
	for _, g := range wrongGrids() {
		wantRow(t, fmt.Sprint(g), impl.BorderTour(g.rows, g.columns), nil)
	}
}

// Promise 86.

func TestOnAGridItIsAsFarAsRowsAndColumnsTell(t *testing.T) {
	for g := range everyGrid() {
		what := fmt.Sprint("the grid ", g)
		net := impl.GridNet(g.rows, g.columns)
		row := impl.DistancesFrom(net, 1)
		wantNumber(t, what, len(row), g.nodes())
		for node, far := range row {
			wantNumber(t, fmt.Sprint(what, " to ", node), far, node/g.columns+node%g.columns)
		}
		wantNumber(t, what+", wires", impl.WiresOf(net), g.rows*(g.columns-1)+g.columns*(g.rows-1))
	}
}

func TestFromEachNodeItIsAsFar(t *testing.T) {
	for g := range everyGrid() {
		net := impl.GridNet(g.rows, g.columns)
		for from := range net {
			for to, far := range impl.DistancesFrom(net, 1<<from) {
				wantNumber(t, fmt.Sprint("on the grid ", g, " from ", from, " to ", to), far, g.far(from, to))
			}
		}
	}
}

// The general rules: arguments are never written to, and results are new.

func TestGridsAreNew(t *testing.T) {
	kinds := []int{0, 1, 0, 2, 2, 2}
	state := withSpare(kinds)
	for range 2 {
		net, border := impl.GridNet(2, 3), impl.BorderTour(2, 3)
		tours, windings := impl.SquareTours(2, 3), impl.SquareWindings(2, 3, state)
		wantRow(t, "the net", net, []int{10, 21, 34, 17, 42, 20})
		wantRow(t, "the border", border, []int{0, 1, 2, 5, 4, 3, 0})
		wantRows(t, "the squares", tours, [][]int{{0, 1, 4, 3, 0}, {1, 2, 5, 4, 1}})
		wantRow(t, "the windings", windings, []int{1, -1})
		overwrite(net)
		overwrite(border)
		overwrite(windings)
		wantRows(t, "the squares, beside other results", tours, [][]int{{0, 1, 4, 3, 0}, {1, 2, 5, 4, 1}})
		overwrite(tours[0])
		wantRow(t, "the second square", tours[1], []int{1, 2, 5, 4, 1})
		wantUnwritten(t, "the state", state, kinds)
	}
	first := impl.SquareTours(3, 2)
	overwrite(first[1])
	wantRow(t, "the first square", first[0], []int{0, 1, 3, 2, 0})
}
