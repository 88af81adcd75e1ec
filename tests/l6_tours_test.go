package tests

import (
	"fmt"
	"iter"
	"slices"
	"testing"

	"loop.example/firingnets/impl"
)

func TestMostNodesOfATour(t *testing.T) {
	wantNumber(t, "MaxTour", impl.MaxTour, 12)
}

// everyClimb tells for each state on each net of one node to four all tours of at most five nodes, and for each other turning a drawn one, of which many have as many nodes as a tour may have.
func everyClimb() iter.Seq2[turning, []int] {
	return func(yield func(turning, []int) bool) {
		number := 0
		for w := range everyTurning() {
			number++
			if !yield(w, drawnTour(w.net, number, number%impl.MaxTour+1)) {
				return
			}
			if len(w.net) <= 4 && !climbsOf(w, yield) {
				return
			}
		}
	}
}

func climbsOf(w turning, yield func(turning, []int) bool) bool {
	for nodes := range 5 {
		for node := range w.net {
			for tour := range toursFrom(w.net, node, nodes+1) {
				if !yield(w, tour) {
					return false
				}
			}
		}
	}
	return true
}

// backwards has the last node of a tour first.
func backwards(tour []int) []int {
	back := slices.Clone(tour)
	slices.Reverse(back)
	return back
}

// wrongTourSteps are no numbers of steps of a tour.
func wrongTourSteps() []int {
	return append(wrongSteps(), impl.MaxTour, impl.MaxTour+1, impl.MaxRun)
}

// Promise 39.

func TestClimbingThereIsFallingBack(t *testing.T) {
	for nodes := 1; nodes <= impl.MaxNodes; nodes++ {
		for state := range statesOf(nodes, impl.Wheel) {
			raised := impl.RaisedState(impl.Wheel, state)
			for a := range nodes {
				for b := range nodes {
					there, back := impl.RiseOf(state, a, b), impl.RiseOf(state, b, a)
					if there != riseBy(state, a, b) || back != -there || impl.RiseOf(raised, a, b) != there {
						t.Fatalf("%v, from %d to %d: %d, and back %d", state, a, b, there, back)
					}
				}
			}
		}
	}
}

func TestRises(t *testing.T) {
	cases := []struct {
		what  string
		state []int
		a, b  int
		want  int
	}{
		{"one node", []int{2}, 0, 0, 0},
		{"a node to itself", []int{0, 1, 2}, 1, 1, 0},
		{"0 to 1", []int{0, 1}, 0, 1, 1},
		{"1 to 2", []int{1, 2}, 0, 1, 1},
		{"2 to 0", []int{2, 0}, 0, 1, 1},
		{"1 to 0", []int{1, 0}, 0, 1, -1},
		{"2 to 1", []int{2, 1}, 0, 1, -1},
		{"0 to 2", []int{0, 2}, 0, 1, -1},
		{"both of the last kind", []int{2, 2}, 0, 1, 0},
		{"the second node is the lesser one", []int{0, 1}, 1, 0, -1},
		{"from the first node to the last one", []int{2, 1, 1, 1, 1, 0}, 0, 5, 1},
		{"from the last node to the first one", []int{2, 1, 1, 1, 1, 0}, 5, 0, -1},
	}
	for _, c := range cases {
		wantNumber(t, c.what, impl.RiseOf(c.state, c.a, c.b), c.want)
	}
}

func TestRisesWrong(t *testing.T) {
	for what, state := range wrongWheelStates() {
		for a := range impl.MaxNodes {
			for b := range impl.MaxNodes {
				wantNumber(t, fmt.Sprint(what, a, b), impl.RiseOf(state, a, b), 0)
			}
		}
	}
	for net := range everyWidth() {
		for state := range statesOf(len(net), impl.Wheel) {
			for _, node := range append(wrongNumbers(), len(net), impl.MaxNodes, 63, 65) {
				wantNumber(t, fmt.Sprint(state, "from ", node), impl.RiseOf(state, node, 0), 0)
				wantNumber(t, fmt.Sprint(state, "to ", node), impl.RiseOf(state, 0, node), 0)
				wantNumber(t, fmt.Sprint(state, "at ", node), impl.RiseOf(state, node, node), 0)
			}
		}
	}
}

// Promise 40.

// Rows of a few nodes with all numbers near those that nodes have: just those are tours that are found by going on from neighbour to neighbour.
func TestToursMayBeTurnedRound(t *testing.T) {
	t.Parallel()
	for nodes := 1; nodes <= 4; nodes++ {
		for net := range netsOf(nodes) {
			tours := map[string]bool{}
			for long := range 4 {
				for node := range net {
					for tour := range toursFrom(net, node, long+1) {
						tours[fmt.Sprint(tour)] = true
					}
				}
			}
			for long := range 5 {
				row := make([]int, long)
				everyRow(row, 0, -1, nodes, func() {
					if ok := impl.TourOk(net, row); ok != tours[fmt.Sprint(row)] || impl.TourOk(net, backwards(row)) != ok {
						t.Fatalf("%v: %v is a tour: %v", net, row, ok)
					}
				})
			}
		}
	}
}

func TestEachNodeAloneIsATour(t *testing.T) {
	for net := range everyNet() {
		for node := range net {
			if !impl.TourOk(net, []int{node}) {
				t.Fatalf("%v: not %d", net, node)
			}
		}
	}
}

func TestToursOfManyNodes(t *testing.T) {
	t.Parallel()
	number := 0
	for net := range everyNet() {
		for nodes := 1; nodes <= impl.MaxTour; nodes++ {
			number++
			tour := drawnTour(net, number, nodes)
			if !impl.TourOk(net, tour) || !impl.TourOk(net, backwards(tour)) {
				t.Fatalf("%v: %v is no tour", net, tour)
			}
			wantOneNodeTold(t, net, tour, number%len(tour))
		}
		if tour := drawnTour(net, number, impl.MaxTour+1); len(tour) > impl.MaxTour && impl.TourOk(net, tour) {
			t.Fatalf("%v: %v is a tour", net, tour)
		}
	}
}

// wantOneNodeTold puts each node in turn at one place of a tour: it is one just for those that are neighbours of the ones beside that place.
func wantOneNodeTold(t *testing.T, net, tour []int, place int) {
	for node := range net {
		changed := slices.Clone(tour)
		changed[place] = node
		before := place == 0 || inSet(net[node], tour[place-1])
		behind := place == len(tour)-1 || inSet(net[node], tour[place+1])
		if impl.TourOk(net, changed) != (before && behind) {
			t.Fatalf("%v: %v is a tour: not %v", net, changed, before && behind)
		}
	}
}

func TestTours(t *testing.T) {
	path, ring := impl.PathNet(4), impl.RingNet(6)
	cases := []struct {
		what      string
		net, tour []int
		ok        bool
	}{
		{"the one node", []int{0}, []int{0}, true},
		{"the one node twice", []int{0}, []int{0, 0}, false},
		{"the last node alone", ring, []int{5}, true},
		{"along a path", path, []int{0, 1, 2, 3}, true},
		{"to and fro", path, []int{0, 1, 0, 1, 2, 1}, true},
		{"over a node", path, []int{0, 2}, false},
		{"over a node at the end", path, []int{0, 1, 2, 3, 1}, false},
		{"it rests", path, []int{0, 1, 1, 2}, false},
		{"round a ring", ring, []int{0, 1, 2, 3, 4, 5, 0}, true},
		{"round a ring, back", ring, []int{0, 5, 4, 3, 2, 1, 0}, true},
		{"across a ring", ring, []int{0, 3}, false},
		{"most nodes", ring, []int{0, 1, 2, 3, 4, 5, 0, 1, 2, 3, 4, 5}, true},
		{"one node more", ring, []int{0, 1, 2, 3, 4, 5, 0, 1, 2, 3, 4, 5, 0}, false},
		{"most nodes of a pair", []int{2, 1}, []int{0, 1, 0, 1, 0, 1, 0, 1, 0, 1, 0, 1}, true},
		{"one node more of a pair", []int{2, 1}, []int{0, 1, 0, 1, 0, 1, 0, 1, 0, 1, 0, 1, 0}, false},
		{"within a part", []int{2, 1, 8, 4}, []int{2, 3, 2}, true},
		{"to another part", []int{2, 1, 8, 4}, []int{0, 1, 2, 3}, false},
		{"nodes without neighbours", make([]int, 6), []int{4, 5}, false},
		{"a node beyond the last one alone", path, []int{4}, false},
		{"a node below 0 alone", path, []int{-1}, false},
	}
	for _, c := range cases {
		if impl.TourOk(c.net, c.tour) != c.ok {
			t.Fatalf("%s: not %v", c.what, c.ok)
		}
	}
}

func TestToursWrong(t *testing.T) {
	for what, net := range wrongNets() {
		for _, tour := range [][]int{nil, {0}, {0, 1}, {1, 0}, {-1}, {6}} {
			if impl.TourOk(net, tour) {
				t.Fatalf("%s: %v is a tour", what, tour)
			}
		}
	}
	for net := range everyWidth() {
		for what, tour := range wrongTours(net) {
			if impl.TourOk(net, tour) {
				t.Fatalf("%v: %s, %v, is a tour", net, what, tour)
			}
		}
	}
}

// Promise 41.

func TestBackItClimbsAsMuchLess(t *testing.T) {
	t.Parallel()
	for w, tour := range everyClimb() {
		climb, ok := impl.ClimbOf(w.net, w.state, tour)
		if !ok || climb != climbBy(w.state, tour) {
			t.Fatalf("%v along %v: %d, %v, not %d", w, tour, climb, ok, climbBy(w.state, tour))
		}
		back := backwards(tour)
		if fall, ok := impl.ClimbOf(w.net, w.state, back); !ok || fall != -climb {
			t.Fatalf("%v along %v: %d, %v, not %d", w, back, fall, ok, -climb)
		}
		both := append(slices.Clone(tour), back[1:]...)
		if all, ok := impl.ClimbOf(w.net, w.state, both); ok != (len(both) <= impl.MaxTour) || all != 0 {
			t.Fatalf("%v along %v: %d, %v", w, both, all, ok)
		}
	}
}

func TestClimbs(t *testing.T) {
	path, six := impl.PathNet(4), impl.RingNet(6)
	cases := []struct {
		what        string
		net         []int
		state, tour []int
		want        int
	}{
		{"one node", []int{0}, []int{2}, []int{0}, 0},
		{"a node alone of most", six, []int{0, 1, 2, 0, 1, 2}, []int{5}, 0},
		{"along a path", path, []int{0, 1, 2, 2}, []int{0, 1, 2, 3}, 2},
		{"along a path back", path, []int{0, 1, 2, 2}, []int{3, 2, 1, 0}, -2},
		{"to and fro", path, []int{0, 1, 2, 2}, []int{0, 1, 0, 1, 2}, 2},
		{"on a level", path, []int{1, 1, 1, 1}, []int{0, 1, 2, 3, 2}, 0},
		{"up and down", path, []int{0, 1, 0, 2}, []int{0, 1, 2, 3}, -1},
		{"round a ring of three", impl.RingNet(3), []int{0, 1, 2}, []int{0, 1, 2, 0}, 3},
		{"round it the other way", impl.RingNet(3), []int{0, 1, 2}, []int{0, 2, 1, 0}, -3},
		{"most nodes of it", impl.RingNet(3), []int{0, 1, 2}, []int{0, 1, 2, 0, 1, 2, 0, 1, 2, 0, 1, 2}, 11},
		{"twice round a ring of six, at once", six, []int{0, 1, 2, 0, 1, 2}, []int{0, 1, 2, 3, 4, 5, 0}, 6},
		{"once round it", six, []int{0, 0, 1, 1, 2, 2}, []int{3, 4, 5, 0, 1, 2, 3}, 3},
		{"not round it", six, []int{0, 1, 2, 1, 0, 0}, []int{0, 1, 2, 3, 4, 5, 0}, 0},
		{"within a part", []int{2, 1, 8, 4}, []int{0, 0, 2, 0}, []int{2, 3}, 1},
		{"most nodes of a pair", []int{2, 1}, []int{0, 1}, []int{0, 1, 0, 1, 0, 1, 0, 1, 0, 1, 0, 1}, 1},
	}
	for _, c := range cases {
		climb, ok := impl.ClimbOf(c.net, c.state, c.tour)
		wantNumber(t, c.what, climb, c.want)
		if !ok {
			t.Fatalf("%s: false", c.what)
		}
	}
}

func TestClimbsWrong(t *testing.T) {
	for what, w := range wrongTurnings() {
		for _, tour := range [][]int{nil, {0}, {0, 1}, {1, 0, 1}, {len(w.state) - 1}, {-1}} {
			wantNoClimb(t, fmt.Sprint(what, tour), w, tour)
		}
	}
	for net := range everyWidth() {
		for what, tour := range wrongTours(net) {
			state := slices.Repeat([]int{0, 1, 2}, 2)[:len(net)]
			wantNoClimb(t, fmt.Sprint(net, what), turning{net, state}, tour)
			wantNoClimb(t, fmt.Sprint(net, what, "on a level"), turning{net, make([]int, len(net))}, tour)
		}
	}
}

func wantNoClimb(t *testing.T, what string, w turning, tour []int) {
	t.Helper()
	if climb, ok := impl.ClimbOf(w.net, w.state, tour); ok || climb != 0 {
		t.Fatalf("%s: %d, %v", what, climb, ok)
	}
}

// Promise 42.

func TestTurnsAreWhatToursClimb(t *testing.T) {
	t.Parallel()
	for w, steps := range everyTurningFor() {
		most, turned := impl.MostClimb(w.net, w.state, steps), impl.TurnedRow(w.net, w.state, steps)
		if len(most) != len(w.net) || !slices.Equal(most, turned) {
			t.Fatalf("%v, %d steps: %v, not %v", w, steps, most, turned)
		}
	}
}

func TestAllTurnsAreWhatToursClimb(t *testing.T) {
	t.Parallel()
	for w := range fewTurnings() {
		for steps := range impl.MaxRun + 1 {
			most, turned := impl.MostClimb(w.net, w.state, steps), impl.TurnedRow(w.net, w.state, steps)
			if len(most) != len(w.net) || !slices.Equal(most, turned) {
				t.Fatalf("%v, %d steps: %v, not %v", w, steps, most, turned)
			}
		}
	}
}

// What all tours climb, gone one by one.
func TestNoTourClimbsMore(t *testing.T) {
	t.Parallel()
	for w := range everyTurning() {
		if len(w.net) > 4 {
			return
		}
		want := make([]int, len(w.net))
		for steps := range 5 {
			for node := range w.net {
				for tour := range toursFrom(w.net, node, steps+1) {
					want[node] = max(want[node], climbBy(w.state, tour))
				}
			}
			if most := impl.MostClimb(w.net, w.state, steps); !slices.Equal(most, want) {
				t.Fatalf("%v, %d steps: %v, not %v", w, steps, most, want)
			}
		}
	}
}

func TestMostClimbs(t *testing.T) {
	path, three := impl.PathNet(4), impl.RingNet(3)
	cases := []struct {
		what  string
		w     turning
		steps int
		want  []int
	}{
		{"one node", turning{[]int{0}, []int{1}}, 60, []int{0}},
		{"nodes without neighbours", turning{make([]int, 6), []int{0, 1, 2, 0, 1, 2}}, 60, make([]int, 6)},
		{"on a level", turning{impl.RingNet(6), []int{1, 1, 1, 1, 1, 1}}, 60, make([]int, 6)},
		{"no steps", turning{path, []int{0, 1, 2, 2}}, 0, []int{0, 0, 0, 0}},
		{"one step", turning{path, []int{0, 1, 2, 2}}, 1, []int{1, 1, 0, 0}},
		{"five steps", turning{path, []int{0, 1, 2, 2}}, 5, []int{2, 1, 0, 0}},
		{"most steps", turning{path, []int{0, 1, 2, 2}}, 60, []int{2, 1, 0, 0}},
		{"nowhere but down", turning{[]int{2, 1}, []int{1, 0}}, 1, []int{0, 1}},
		{"down at first", turning{path, []int{1, 0, 1, 2}}, 2, []int{0, 2, 1, 0}},
		{"down at first, and then up", turning{path, []int{1, 0, 1, 2}}, 3, []int{1, 2, 1, 0}},
		{"round a ring", turning{three, []int{0, 1, 2}}, 6, []int{6, 6, 6}},
		{"more steps than a tour has", turning{three, []int{0, 1, 2}}, 12, []int{12, 12, 12}},
		{"most steps round a ring", turning{three, []int{0, 1, 2}}, 60, []int{60, 60, 60}},
		{"most steps round six", turning{impl.RingNet(6), []int{0, 0, 1, 1, 2, 2}}, 60, slices.Repeat([]int{30}, 6)},
		{"most steps into a ring", turning{[]int{2, 13, 10, 6}, []int{1, 0, 1, 2}}, 60, []int{58, 60, 60, 60}},
		{"a ring beside a path", turning{[]int{6, 5, 3, 16, 40, 16}, []int{0, 1, 2, 0, 1, 2}}, 60, []int{60, 60, 60, 2, 1, 0}},
	}
	for _, c := range cases {
		wantRow(t, c.what, impl.MostClimb(c.w.net, c.w.state, c.steps), c.want)
	}
}

func TestMostClimbsWrong(t *testing.T) {
	wantNoWrongTurns(t, impl.MostClimb)
}

// Promise 43.

func TestBestToursClimbMost(t *testing.T) {
	t.Parallel()
	number := 0
	for w := range everyTurning() {
		number++
		steps, node := number%impl.MaxTour, number/impl.MaxTour%len(w.net)
		tour := impl.BestTour(w.net, w.state, node, steps)
		most := impl.MostClimb(w.net, w.state, steps)[node]
		wantTourFrom(t, w, tour, node, steps)
		if climb, ok := impl.ClimbOf(w.net, w.state, tour); !ok || climb != most {
			t.Fatalf("%v, %d steps: %v climbs %d, not %d", w, steps, tour, climb, most)
		}
		drawn := drawnTour(w.net, node+number*len(w.net), steps+1)
		if climb, ok := impl.ClimbOf(w.net, w.state, drawn); !ok || drawn[0] != node || climb > most {
			t.Fatalf("%v, %d steps: %v climbs %d, and %v %d", w, steps, drawn, climb, tour, most)
		}
	}
}

func wantTourFrom(t *testing.T, w turning, tour []int, node, steps int) {
	if !impl.TourOk(w.net, tour) || tour[0] != node || len(tour) > steps+1 {
		t.Fatalf("%v, %d steps from %d: %v", w, steps, node, tour)
	}
}

// All tours are gone one by one, those with fewer steps first, and of these those with lesser nodes first.
func TestBestToursAreTheFirstOnes(t *testing.T) {
	t.Parallel()
	for w := range everyTurning() {
		if len(w.net) > 4 {
			return
		}
		for node := range w.net {
			best := []int{node}
			for steps := range 5 {
				for tour := range toursFrom(w.net, node, steps+1) {
					if climbBy(w.state, tour) > climbBy(w.state, best) {
						best = tour
					}
				}
				if tour := impl.BestTour(w.net, w.state, node, steps); !slices.Equal(tour, best) {
					t.Fatalf("%v, %d steps from %d: %v, not %v", w, steps, node, tour, best)
				}
			}
		}
	}
}

func TestBestToursOfMostSteps(t *testing.T) {
	t.Parallel()
	for w := range fewTurnings() {
		for node := range w.net {
			var best []int
			for steps, row := range exactToursBy(w, impl.MaxTour) {
				if tour := row[node]; best == nil || tour != nil && climbBy(w.state, tour) > climbBy(w.state, best) {
					best = tour
				}
				if tour := impl.BestTour(w.net, w.state, node, steps); !slices.Equal(tour, best) {
					t.Fatalf("%v, %d steps from %d: %v, not %v", w, steps, node, tour, best)
				}
			}
		}
	}
}

// exactToursBy has for each number of nodes that a tour may have, and for each node, the first one of the tours from it with just so many nodes that climb most; nil where there is none.
func exactToursBy(w turning, nodes int) [][][]int {
	rows := [][][]int{{}}
	for node := range w.net {
		rows[0] = append(rows[0], []int{node})
	}
	for len(rows) < nodes {
		row := make([][]int, len(w.net))
		for node := range row {
			for other, rest := range rows[len(rows)-1] {
				if inSet(w.net[node], other) && rest != nil {
					row[node] = firstTour(w.state, row[node], append([]int{node}, rest...))
				}
			}
		}
		rows = append(rows, row)
	}
	return rows
}

func firstTour(state, a, b []int) []int {
	if a == nil || climbBy(state, b) > climbBy(state, a) {
		return b
	}
	if climbBy(state, b) == climbBy(state, a) && slices.Compare(b, a) < 0 {
		return b
	}
	return a
}

func TestBestTours(t *testing.T) {
	path, three := impl.PathNet(4), impl.RingNet(3)
	cases := []struct {
		what        string
		w           turning
		node, steps int
		want        []int
	}{
		{"one node", turning{[]int{0}, []int{1}}, 0, 11, []int{0}},
		{"a node without neighbours", turning{make([]int, 6), []int{0, 1, 2, 0, 1, 2}}, 5, 11, []int{5}},
		{"no steps", turning{path, []int{0, 1, 2, 2}}, 1, 0, []int{1}},
		{"one step", turning{path, []int{0, 1, 2, 2}}, 0, 1, []int{0, 1}},
		{"more steps than it needs", turning{path, []int{0, 1, 2, 2}}, 0, 5, []int{0, 1, 2}},
		{"on a level", turning{impl.RingNet(6), []int{1, 1, 1, 1, 1, 1}}, 3, 11, []int{3}},
		{"nowhere but down", turning{[]int{2, 1}, []int{0, 1}}, 1, 11, []int{1}},
		{"down at first, and not up enough", turning{path, []int{1, 0, 1, 2}}, 0, 2, []int{0}},
		{"down at first, and then up", turning{path, []int{1, 0, 1, 2}}, 0, 3, []int{0, 1, 2, 3}},
		{"on a level at first", turning{impl.PathNet(3), []int{1, 1, 2}}, 0, 11, []int{0, 1, 2}},
		{"most steps round a ring", turning{three, []int{0, 1, 2}}, 0, 11, []int{0, 1, 2, 0, 1, 2, 0, 1, 2, 0, 1, 2}},
		{"round a ring the other way", turning{three, []int{0, 2, 1}}, 1, 4, []int{1, 0, 2, 1, 0}},
		{"most steps into a ring", turning{[]int{2, 13, 10, 6}, []int{1, 0, 1, 2}}, 0, 11, []int{0, 1, 2, 3, 1, 2, 3, 1, 2, 3, 1, 0}},
		{"the way that is shorter", turning{[]int{22, 9, 9, 6, 1}, []int{0, 0, 0, 1, 1}}, 0, 11, []int{0, 4}},
		{"the next node that is less", turning{[]int{30, 1, 1, 1, 1}, []int{0, 2, 1, 1, 1}}, 0, 11, []int{0, 2}},
		{"the first node that differs", turning{[]int{6, 17, 9, 4, 2}, []int{0, 1, 1, 2, 2}}, 0, 11, []int{0, 1, 4}},
		{"a level behind the first node", turning{[]int{6, 9, 17, 2, 4}, []int{0, 1, 0, 1, 1}}, 0, 1, []int{0, 1}},
		{"the later node is higher, two steps on", turning{[]int{6, 1, 9, 4}, []int{0, 1, 1, 2}}, 0, 2, []int{0, 2, 3}},
		{"round a ring, and on while it climbs", turning{impl.RingNet(6), []int{0, 0, 1, 2, 0, 2}}, 1, 11, []int{1, 2, 3, 4, 5, 0, 1, 2, 3, 4}},
		{"up one side of a ring", turning{impl.RingNet(6), []int{0, 0, 1, 2, 1, 0}}, 1, 11, []int{1, 2, 3}},
		{"up either side of a ring", turning{impl.RingNet(6), []int{0, 1, 2, 0, 2, 1}}, 0, 11, []int{0, 1, 2, 3}},
		{"a ring beside a path", turning{[]int{6, 5, 3, 16, 40, 16}, []int{0, 1, 2, 0, 1, 2}}, 3, 11, []int{3, 4, 5}},
	}
	for _, c := range cases {
		wantRow(t, c.what, impl.BestTour(c.w.net, c.w.state, c.node, c.steps), c.want)
	}
}

func TestBestToursWrong(t *testing.T) {
	for what, w := range wrongTurnings() {
		for _, node := range []int{0, len(w.state) - 1, -1} {
			for _, steps := range []int{0, 1, impl.MaxTour - 1, -1} {
				wantRow(t, fmt.Sprint(what, node, steps), impl.BestTour(w.net, w.state, node, steps), nil)
			}
		}
	}
	for net := range everyWidth() {
		state := slices.Repeat([]int{0, 1, 2}, 2)[:len(net)]
		for _, steps := range wrongTourSteps() {
			wantRow(t, fmt.Sprint(net, steps), impl.BestTour(net, state, 0, steps), nil)
		}
		for _, node := range append(wrongNumbers(), len(net), impl.MaxNodes, 63, 65) {
			for _, steps := range []int{0, 1, impl.MaxTour - 1} {
				wantRow(t, fmt.Sprint(net, node, steps), impl.BestTour(net, state, node, steps), nil)
			}
		}
	}
}

// Promise 44.

func TestClimbsAreAdded(t *testing.T) {
	t.Parallel()
	for w, tour := range everyClimb() {
		all, ok := impl.ClimbOf(w.net, w.state, tour)
		for place := range tour {
			first, one := impl.ClimbOf(w.net, w.state, tour[:place+1])
			others, two := impl.ClimbOf(w.net, w.state, tour[place:])
			if !ok || !one || !two || first+others != all {
				t.Fatalf("%v along %v: %d, but %d and %d from place %d on", w, tour, all, first, others, place)
			}
		}
	}
}

// Promise 45.

func TestRoundATriangleOneClimbsByThreeOrNotAtAll(t *testing.T) {
	t.Parallel()
	for w := range everyTurning() {
		for a, near := range w.net {
			for b := range w.net {
				for c := range w.net {
					if inSet(near, b) && inSet(near, c) && inSet(w.net[b], c) {
						wantTriangle(t, w, a, b, c)
					}
				}
			}
		}
	}
}

func wantTriangle(t *testing.T, w turning, a, b, c int) {
	climb, ok := impl.ClimbOf(w.net, w.state, []int{a, b, c, a})
	differ := w.state[a] != w.state[b] && w.state[b] != w.state[c] && w.state[c] != w.state[a]
	if !ok || climb != 3 && climb != 0 && climb != -3 || differ != (climb != 0) {
		t.Fatalf("%v round %d %d %d: %d, %v", w, a, b, c, climb, ok)
	}
}

// The general rules: arguments are never written to, and results are new.

func TestToursAreNotWrittenTo(t *testing.T) {
	ring, state, round := []int{10, 5, 10, 5}, []int{0, 1, 2, 2}, []int{0, 1, 2, 3, 0}
	net, given, tour := withSpare(ring), withSpare(state), withSpare(round)
	for range 2 {
		climb, ok := impl.ClimbOf(net, given, tour)
		wantNumber(t, "the climb", climb, 3)
		wantNumber(t, "the rise", impl.RiseOf(given, 3, 0), 1)
		if !ok || !impl.TourOk(net, tour) {
			t.Fatal("the round is no tour")
		}
		most, none := impl.MostClimb(net, given, 6), impl.MostClimb(net, given, 0)
		best, alone := impl.BestTour(net, given, 3, 6), impl.BestTour(net, given, 3, 0)
		wantRow(t, "the most", most, []int{5, 4, 4, 5})
		wantRow(t, "no steps", none, []int{0, 0, 0, 0})
		wantRow(t, "the best tour", best, []int{3, 0, 1, 2, 3, 0, 1})
		wantRow(t, "a node alone", alone, []int{3})
		for _, row := range [][]int{most, none, best, alone} {
			overwrite(row)
		}
		wantUnwritten(t, "the net", net, ring)
		wantUnwritten(t, "the state", given, state)
		wantUnwritten(t, "the tour", tour, round)
	}
}

// What the document's examples tell of turning is what tours climb: the ring of 01,03,12,23 with 0122.
func TestToursOfTheExamples(t *testing.T) {
	wantRow(t, "most of 6", impl.MostClimb(impl.RingNet(4), []int{0, 1, 2, 2}, 6), []int{5, 4, 4, 5})
}
