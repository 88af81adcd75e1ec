package tests

import (
	"fmt"
	"iter"
	"slices"
	"testing"

	"loop.example/firingnets/impl"
)

// everyRound tells tours that come back: for each state on each net of one node to four all of at most five nodes, and for each turning a drawn one, of up to MaxTour nodes.
func everyRound() iter.Seq2[turning, []int] {
	return func(yield func(turning, []int) bool) {
		number := 0
		for w, tour := range everyClimb() {
			number++
			if tour[0] == tour[len(tour)-1] && !yield(w, tour) {
				return
			}
			// Back from 7 nodes it is at most 5 more.
			if len(w.net) > 4 && !yield(w, drawnRound(w.net, number, number%7+1)) {
				return
			}
		}
	}
}

// roundTheRing has the tour once round a ring of so many nodes, from a node on.
func roundTheRing(nodes, node int) []int {
	var tour []int
	for step := range nodes + 1 {
		tour = append(tour, (node+step)%nodes)
	}
	return tour
}

// twice has a tour that comes back, and behind it once more.
func twice(tour []int) []int {
	return append(slices.Clone(tour), tour[1:]...)
}

func wantWinding(t *testing.T, w turning, tour []int, want int) {
	t.Helper()
	if winding, ok := impl.WindingOf(w.net, w.state, tour); !ok || winding != want {
		t.Fatalf("%v round %v: %d, %v, not %d", w, tour, winding, ok, want)
	}
}

func wantNoWinding(t *testing.T, what string, w turning, tour []int) {
	t.Helper()
	if winding, ok := impl.WindingOf(w.net, w.state, tour); ok || winding != 0 {
		t.Fatalf("%s: %d, %v", what, winding, ok)
	}
}

// Promise 46.

func TestWindingsAreNeverLost(t *testing.T) {
	t.Parallel()
	for w, tour := range everyRound() {
		winding, ok := impl.WindingOf(w.net, w.state, tour)
		if climb, tells := impl.ClimbOf(w.net, w.state, tour); !ok || !tells || 3*winding != climb || climb != climbBy(w.state, tour) {
			t.Fatalf("%v round %v: %d, %v, though it climbs %d, %v", w, tour, winding, ok, climb, tells)
		}
		wantWinding(t, turning{w.net, impl.FireStep(w.net, impl.Wheel, w.state)}, tour, winding)
		wantWinding(t, turning{w.net, impl.TurnStep(w.net, w.state)}, tour, winding)
	}
}

func TestWindingsAreOfToursThatComeBack(t *testing.T) {
	t.Parallel()
	for w, tour := range everyClimb() {
		winding, ok := impl.WindingOf(w.net, w.state, tour)
		if back := tour[0] == tour[len(tour)-1]; ok != back || !ok && winding != 0 {
			t.Fatalf("%v along %v: %d, %v", w, tour, winding, ok)
		}
	}
}

// A ring winds alike from each of its nodes on, and the other way as much back.
func TestRingsWind(t *testing.T) {
	for nodes := 3; nodes <= impl.MaxNodes; nodes++ {
		ring := impl.RingNet(nodes)
		for state := range statesOf(nodes, impl.Wheel) {
			w := turning{ring, state}
			climb := 0
			for node := range nodes {
				climb += riseBy(state, node, (node+1)%nodes)
			}
			for node := range nodes {
				tour := roundTheRing(nodes, node)
				wantWinding(t, w, tour, climb/3)
				wantWinding(t, w, backwards(tour), -climb/3)
			}
		}
	}
}

func TestWindings(t *testing.T) {
	three, four, six := impl.RingNet(3), impl.RingNet(4), impl.RingNet(6)
	cases := []struct {
		what string
		w    turning
		tour []int
		want int
	}{
		{"one node", turning{[]int{0}, []int{2}}, []int{0}, 0},
		{"a node without neighbours", turning{make([]int, 6), []int{0, 1, 2, 0, 1, 2}}, []int{5}, 0},
		{"one node of a ring that winds", turning{three, []int{0, 1, 2}}, []int{1}, 0},
		{"to a neighbour and back", turning{impl.PathNet(2), []int{0, 1}}, []int{0, 1, 0}, 0},
		{"along a path and back", turning{impl.PathNet(4), []int{0, 1, 2, 0}}, []int{0, 1, 2, 3, 2, 1, 0}, 0},
		{"round a ring of three", turning{three, []int{0, 1, 2}}, []int{0, 1, 2, 0}, 1},
		{"from another node on", turning{three, []int{0, 1, 2}}, []int{2, 0, 1, 2}, 1},
		{"round it the other way", turning{three, []int{0, 1, 2}}, []int{0, 2, 1, 0}, -1},
		{"round a ring of three that falls", turning{three, []int{0, 2, 1}}, []int{0, 1, 2, 0}, -1},
		{"round a ring of three with two alike", turning{three, []int{0, 1, 1}}, []int{0, 1, 2, 0}, 0},
		{"all of one kind", turning{three, []int{2, 2, 2}}, []int{0, 1, 2, 0}, 0},
		{"twice round a ring of three", turning{three, []int{0, 1, 2}}, []int{0, 1, 2, 0, 1, 2, 0}, 2},
		{"twice round it the other way", turning{three, []int{0, 1, 2}}, []int{0, 2, 1, 0, 2, 1, 0}, -2},
		{"three times", turning{three, []int{0, 1, 2}}, []int{0, 1, 2, 0, 1, 2, 0, 1, 2, 0}, 3},
		{"three times the other way", turning{three, []int{0, 1, 2}}, []int{0, 2, 1, 0, 2, 1, 0, 2, 1, 0}, -3},
		{"there and back round it", turning{three, []int{0, 1, 2}}, []int{0, 1, 2, 0, 2, 1, 0}, 0},
		{"most nodes of a tour", turning{three, []int{0, 1, 2}}, []int{0, 1, 2, 0, 1, 2, 0, 1, 2, 0, 1, 0}, 3},
		{"round a ring of four", turning{four, []int{0, 1, 2, 2}}, []int{0, 1, 2, 3, 0}, 1},
		{"up and down round it", turning{four, []int{0, 1, 0, 2}}, []int{0, 1, 2, 3, 0}, 0},
		{"once round a ring of six", turning{six, []int{0, 0, 1, 1, 2, 2}}, []int{0, 1, 2, 3, 4, 5, 0}, 1},
		{"twice in one round", turning{six, []int{0, 1, 2, 0, 1, 2}}, []int{0, 1, 2, 3, 4, 5, 0}, 2},
		{"twice in one round back", turning{six, []int{0, 1, 2, 0, 1, 2}}, []int{0, 5, 4, 3, 2, 1, 0}, -2},
		{"not in one round", turning{six, []int{0, 1, 2, 0, 2, 1}}, []int{0, 1, 2, 3, 4, 5, 0}, 0},
		{"a way to the round and back", turning{[]int{2, 13, 10, 6}, []int{1, 0, 1, 2}}, []int{0, 1, 2, 3, 1, 0}, 1},
		{"the first part of two", turning{[]int{6, 5, 3, 48, 40, 24}, []int{0, 1, 2, 0, 2, 1}}, []int{0, 1, 2, 0}, 1},
		{"the second part of two", turning{[]int{6, 5, 3, 48, 40, 24}, []int{0, 1, 2, 0, 2, 1}}, []int{3, 4, 5, 3}, -1},
		{"a path beside a ring", turning{[]int{6, 5, 3, 16, 40, 16}, []int{0, 1, 2, 0, 1, 2}}, []int{5, 4, 3, 4, 5}, 0},
	}
	for _, c := range cases {
		winding, ok := impl.WindingOf(c.w.net, c.w.state, c.tour)
		wantNumber(t, c.what, winding, c.want)
		if !ok {
			t.Fatalf("%s: false", c.what)
		}
	}
}

func TestWindingsOfToursThatDoNotComeBack(t *testing.T) {
	four := turning{impl.RingNet(4), []int{0, 1, 2, 2}}
	for _, tour := range [][]int{{0, 1}, {0, 1, 2, 3}, {0, 1, 2, 3, 0, 1}, {0, 1, 0, 1}, {3, 2}, {1, 2, 3, 0}} {
		wantNoWinding(t, fmt.Sprint(tour), four, tour)
	}
	wantNoWinding(t, "three steps up", turning{impl.PathNet(4), []int{0, 1, 2, 0}}, []int{0, 1, 2, 3})
	wantNoWinding(t, "to a node of the same kind", turning{impl.PathNet(3), []int{1, 2, 1}}, []int{0, 1, 2})
	wantNoWinding(t, "on a level", turning{impl.PathNet(6), make([]int, 6)}, []int{0, 1, 2, 3, 4, 5})
	wantNoWinding(t, "most nodes of a tour", turning{impl.RingNet(3), []int{0, 1, 2}}, []int{0, 1, 2, 0, 1, 2, 0, 1, 2, 0, 1, 2})
}

func TestWindingsWrong(t *testing.T) {
	for what, w := range wrongTurnings() {
		for _, tour := range [][]int{nil, {0}, {0, 1, 0}, {0, 1, 2, 0}, {len(w.state) - 1}, {-1}} {
			wantNoWinding(t, fmt.Sprint(what, tour), w, tour)
		}
	}
	for net := range everyWidth() {
		for what, tour := range wrongTours(net) {
			for _, state := range [][]int{make([]int, len(net)), slices.Repeat([]int{0, 1, 2}, 2)[:len(net)]} {
				w := turning{net, state}
				wantNoWinding(t, fmt.Sprint(w, what), w, tour)
				if len(tour) > 0 {
					wantNoWinding(t, fmt.Sprint(w, what, ", and back"), w, append(slices.Clone(tour), backwards(tour)[1:]...))
				}
			}
		}
	}
	six := turning{impl.RingNet(6), []int{0, 1, 2, 0, 1, 2}}
	wantNoWinding(t, "twice round a ring of six, a node too many", six, twice(roundTheRing(6, 0)))
	wantNoWinding(t, "round a path", turning{impl.PathNet(3), []int{0, 1, 2}}, roundTheRing(3, 0))
}

// Promise 47.

func TestHeightsAreWhatToursClimb(t *testing.T) {
	t.Parallel()
	for w := range everyTurning() {
		heights, ok := impl.HeightRow(w.net, w.state)
		if want, told := heightsBy(w); ok != told || !slices.Equal(heights, want) {
			t.Fatalf("%v: %v, %v, not %v, %v", w, heights, ok, want, told)
		}
		if impl.FlatOk(w.net, w.state) != ok {
			t.Fatalf("%v is flat: not %v", w, ok)
		}
		if ok {
			wantDifferences(t, w, heights)
		}
	}
}

func wantDifferences(t *testing.T, w turning, heights []int) {
	for node, least := range impl.PartsOf(w.net) {
		if heights[least] != 0 {
			t.Fatalf("%v: %v, not 0 for %d", w, heights, least)
		}
		for other := range w.net {
			if climb := impl.RiseOf(w.state, node, other); inSet(w.net[node], other) && heights[other]-heights[node] != climb {
				t.Fatalf("%v: %v, though from %d to %d one climbs %d", w, heights, node, other, climb)
			}
		}
	}
}

func TestATurnRaisesToTheGreatestHeightBeside(t *testing.T) {
	t.Parallel()
	for w := range everyTurning() {
		heights, ok := impl.HeightRow(w.net, w.state)
		if !ok {
			continue
		}
		higher, turned := greatestBeside(w.net, heights), impl.TurnedRow(w.net, w.state, 1)
		after, ok := impl.HeightRow(w.net, impl.TurnStep(w.net, w.state))
		if !ok || len(turned) != len(w.net) {
			t.Fatalf("%v behind a turn: %v, %v", w, ok, turned)
		}
		for node, least := range partsBy(farTable(w.net)) {
			// Behind the turn heights are told from the least node on as well, which may have been raised.
			if turned[node] != higher[node]-heights[node] || after[node] != higher[node]-higher[least] {
				t.Fatalf("%v: %v, turned %v, and then %v, wrong for %d", w, heights, turned, after, node)
			}
		}
	}
}

func greatestBeside(net, heights []int) []int {
	row := slices.Clone(heights)
	for node := range net {
		for other, height := range heights {
			if inSet(net[node], other) {
				row[node] = max(row[node], height)
			}
		}
	}
	return row
}

func TestHeightRows(t *testing.T) {
	three, four, six := impl.RingNet(3), impl.RingNet(4), impl.RingNet(6)
	cases := []struct {
		what string
		w    turning
		want []int
	}{
		{"one node", turning{[]int{0}, []int{2}}, []int{0}},
		{"nodes without neighbours", turning{make([]int, 6), []int{0, 1, 2, 0, 1, 2}}, make([]int, 6)},
		{"all of one kind", turning{six, []int{2, 2, 2, 2, 2, 2}}, make([]int, 6)},
		{"a pair that climbs from 2 to 0", turning{[]int{2, 1}, []int{2, 0}}, []int{0, 1}},
		{"a pair that falls from 0 to 2", turning{[]int{2, 1}, []int{0, 2}}, []int{0, -1}},
		{"a path", turning{impl.PathNet(4), []int{0, 1, 2, 2}}, []int{0, 1, 2, 2}},
		{"up a path of six", turning{impl.PathNet(6), []int{0, 1, 2, 0, 1, 2}}, []int{0, 1, 2, 3, 4, 5}},
		{"down a path of six", turning{impl.PathNet(6), []int{2, 1, 0, 2, 1, 0}}, []int{0, -1, -2, -3, -4, -5}},
		{"the least node in the middle", turning{[]int{6, 1, 1}, []int{1, 0, 2}}, []int{0, -1, 1}},
		{"lesser nodes behind greater ones", turning{[]int{8, 4, 10, 5}, []int{0, 0, 2, 1}}, []int{0, 3, 2, 1}},
		{"a ring of three", turning{three, []int{0, 1, 1}}, []int{0, 1, 1}},
		{"a ring of four", turning{four, []int{0, 1, 0, 2}}, []int{0, 1, 0, -1}},
		{"up both sides of a ring of six", turning{six, []int{0, 1, 2, 0, 2, 1}}, []int{0, 1, 2, 3, 2, 1}},
		{"all six are neighbours", turning{[]int{62, 61, 59, 55, 47, 31}, []int{0, 0, 0, 2, 2, 2}}, []int{0, 0, 0, -1, -1, -1}},
		{"two parts", turning{[]int{2, 1, 8, 4}, []int{1, 2, 1, 0}}, []int{0, 1, 0, -1}},
		{"two parts, their nodes by turns", turning{[]int{4, 8, 1, 2}, []int{0, 1, 1, 0}}, []int{0, 0, 1, -1}},
		{"a ring beside a path", turning{[]int{6, 5, 3, 16, 40, 16}, []int{0, 1, 1, 2, 0, 1}}, []int{0, 1, 1, 0, 1, 2}},
		{"three pairs", turning{[]int{8, 16, 32, 1, 2, 4}, []int{0, 1, 2, 2, 1, 0}}, []int{0, 0, 0, -1, 0, 1}},
	}
	for _, c := range cases {
		heights, ok := impl.HeightRow(c.w.net, c.w.state)
		wantRow(t, c.what, heights, c.want)
		if !ok {
			t.Fatalf("%s: false", c.what)
		}
	}
}

// windingTurnings have a tour that comes back and winds.
func windingTurnings() map[string]turning {
	return map[string]turning{
		"a ring of three":                      {impl.RingNet(3), []int{0, 1, 2}},
		"a ring of three that falls":           {impl.RingNet(3), []int{0, 2, 1}},
		"a ring of four":                       {impl.RingNet(4), []int{0, 1, 2, 2}},
		"a ring of six":                        {impl.RingNet(6), []int{0, 0, 1, 1, 2, 2}},
		"a ring of six that winds twice":       {impl.RingNet(6), []int{0, 1, 2, 0, 1, 2}},
		"a ring of six that winds twice back":  {impl.RingNet(6), []int{2, 1, 0, 2, 1, 0}},
		"a ring beside a path":                 {[]int{6, 5, 3, 16, 40, 16}, []int{0, 1, 2, 0, 1, 2}},
		"a ring behind a node alone":           {[]int{0, 12, 10, 6}, []int{0, 0, 1, 2}},
		"the second ring of two":               {[]int{6, 5, 3, 48, 40, 24}, []int{0, 1, 1, 0, 2, 1}},
		"two rings against each other":         {[]int{6, 5, 3, 48, 40, 24}, []int{0, 1, 2, 0, 2, 1}},
		"a ring at the end of a way":           {[]int{2, 13, 10, 6}, []int{1, 0, 1, 2}},
		"one square of two":                    {[]int{10, 21, 34, 17, 42, 20}, []int{0, 1, 1, 2, 2, 1}},
		"two squares against each other":       {[]int{10, 21, 34, 17, 42, 20}, []int{0, 1, 0, 2, 2, 2}},
		"all six are neighbours, three differ": {[]int{62, 61, 59, 55, 47, 31}, []int{0, 0, 0, 0, 1, 2}},
	}
}

func TestNoHeights(t *testing.T) {
	for what, w := range windingTurnings() {
		heights, ok := impl.HeightRow(w.net, w.state)
		wantNone(t, what, heights, ok)
	}
}

func TestHeightRowsWrong(t *testing.T) {
	for what, w := range wrongTurnings() {
		heights, ok := impl.HeightRow(w.net, w.state)
		wantNone(t, what, heights, ok)
	}
}

// Promise 48.

func TestWhatWindsNeverDiesAndWhatIsFlatDoes(t *testing.T) {
	t.Parallel()
	for w := range everyTurning() {
		flat := impl.FlatOk(w.net, w.state)
		if rests := impl.EndsAt(w.net, impl.Wheel, w.state) >= 0; flat != rests {
			t.Fatalf("%v is flat: %v, and comes to rest: %v", w, flat, rests)
		}
		if stands := impl.StandsAt(w.net, w.state) >= 0; flat != stands {
			t.Fatalf("%v is flat: %v, and comes to a stand: %v", w, flat, stands)
		}
		fired, turned := impl.FireStep(w.net, impl.Wheel, w.state), impl.TurnStep(w.net, w.state)
		if impl.FlatOk(w.net, fired) != flat || impl.FlatOk(w.net, turned) != flat {
			t.Fatalf("%v is flat: %v, but not so %v or %v", w, flat, fired, turned)
		}
	}
}

// If any tour winds, one does that comes by no other node twice: it has at most one node more than the net, and everyRound tells it.
func TestFlatIsWhereNoTourWinds(t *testing.T) {
	t.Parallel()
	winds, last := false, turning{}
	want := func(w turning) {
		if len(w.net) > 0 && impl.FlatOk(w.net, w.state) == winds {
			t.Fatalf("%v is flat: %v", w, winds)
		}
	}
	for w, tour := range everyRound() {
		if len(w.net) > 4 {
			break
		}
		if !slices.Equal(w.net, last.net) || !slices.Equal(w.state, last.state) {
			want(last)
			winds, last = false, w
		}
		winding, ok := impl.WindingOf(w.net, w.state, tour)
		winds = winds || !ok || winding != 0
	}
	want(last)
}

func TestFlatStates(t *testing.T) {
	cases := map[string]turning{
		"one node":                                {[]int{0}, []int{1}},
		"nodes without neighbours":                {make([]int, 6), []int{0, 1, 2, 0, 1, 2}},
		"all of one kind":                         {impl.RingNet(6), []int{1, 1, 1, 1, 1, 1}},
		"a path of six":                           {impl.PathNet(6), []int{0, 1, 2, 0, 1, 2}},
		"a ring of three with two alike":          {impl.RingNet(3), []int{0, 1, 1}},
		"up and down a ring of four":              {impl.RingNet(4), []int{0, 1, 0, 2}},
		"up both sides of a ring of six":          {impl.RingNet(6), []int{0, 1, 2, 0, 2, 1}},
		"a ring beside a path with three kinds":   {[]int{6, 5, 3, 16, 40, 16}, []int{0, 1, 1, 0, 1, 2}},
		"all six are neighbours, of two kinds":    {[]int{62, 61, 59, 55, 47, 31}, []int{1, 0, 0, 1, 0, 1}},
		"two squares, up from corner to corner":   {[]int{10, 21, 34, 17, 42, 20}, []int{0, 1, 2, 1, 2, 0}},
		"three kinds, but not round the triangle": {[]int{2, 13, 10, 6}, []int{2, 0, 1, 1}},
	}
	for what, w := range cases {
		if !impl.FlatOk(w.net, w.state) {
			t.Fatalf("%s is not flat", what)
		}
	}
	for what, w := range windingTurnings() {
		if impl.FlatOk(w.net, w.state) {
			t.Fatalf("%s is flat", what)
		}
	}
}

func TestFlatOkWrong(t *testing.T) {
	for what, w := range wrongTurnings() {
		if impl.FlatOk(w.net, w.state) {
			t.Fatalf("%s: %v is flat", what, w)
		}
	}
}

// Promise 49.

func TestAllStandAsHighAsTheHighestOne(t *testing.T) {
	t.Parallel()
	for w := range everyTurning() {
		at := impl.StandsAt(w.net, w.state)
		if before, long := turnLoopBy(w); long == 1 && at != before || long > 1 && at != -1 {
			t.Fatalf("%v: %d, with a loop of %d behind %d", w, at, long, before)
		}
		if at >= 0 {
			wantStands(t, w, at)
		}
	}
}

func wantStands(t *testing.T, w turning, at int) {
	stand := impl.TurnRun(w.net, w.state, at)
	if !impl.StillOk(w.net, stand) || at > 0 && impl.StillOk(w.net, impl.TurnRun(w.net, w.state, at-1)) {
		t.Fatalf("%v: not first at %d, where it is %v", w, at, stand)
	}
	for node, near := range w.net {
		for other := range w.net {
			if inSet(near, other) && stand[node] != stand[other] {
				t.Fatalf("%v: at %d it is %v, which differs at %d and %d", w, at, stand, node, other)
			}
		}
	}
	if again := impl.StandsAt(w.net, stand); again != 0 {
		t.Fatalf("%v: at %d it is %v, which stands at %d", w, at, stand, again)
	}
}

// From those that are as high as the peak of their part it goes out like a wave.
func TestItStandsWhenThePeaksHaveArrived(t *testing.T) {
	t.Parallel()
	for w := range everyTurning() {
		heights, ok := heightsBy(w)
		if !ok {
			continue
		}
		far, highest := farTable(w.net), 0
		for node, peak := range peaksBy(far, heights) {
			if heights[node] == peak {
				highest |= 1 << node
			}
		}
		if at, want := impl.StandsAt(w.net, w.state), slices.Max(distancesBy(far, highest)); at != want {
			t.Fatalf("%v: %d, not %d", w, at, want)
		}
	}
}

func TestStands(t *testing.T) {
	cases := []struct {
		what string
		w    turning
		want int
	}{
		{"one node", turning{[]int{0}, []int{2}}, 0},
		{"nodes without neighbours", turning{make([]int, 6), []int{0, 1, 2, 0, 1, 2}}, 0},
		{"all of one kind", turning{impl.RingNet(6), []int{1, 1, 1, 1, 1, 1}}, 0},
		{"two parts, each of one kind", turning{[]int{2, 1, 8, 4}, []int{1, 1, 2, 2}}, 0},
		{"a pair", turning{[]int{2, 1}, []int{2, 0}}, 1},
		{"a pair, the other way round", turning{[]int{2, 1}, []int{0, 2}}, 1},
		{"a path", turning{impl.PathNet(4), []int{0, 1, 2, 2}}, 2},
		{"up a path of six", turning{impl.PathNet(6), []int{0, 1, 2, 0, 1, 2}}, 5},
		{"a long level below the last node", turning{impl.PathNet(6), []int{0, 0, 0, 0, 0, 1}}, 5},
		{"a long level below the first node", turning{impl.PathNet(6), []int{2, 1, 1, 1, 1, 1}}, 5},
		{"a long level above the first node", turning{impl.PathNet(6), []int{0, 1, 1, 1, 1, 1}}, 1},
		{"a ring of three", turning{impl.RingNet(3), []int{0, 1, 1}}, 1},
		{"a ring of four", turning{impl.RingNet(4), []int{0, 1, 0, 2}}, 2},
		{"up both sides of a ring of six", turning{impl.RingNet(6), []int{0, 1, 2, 0, 2, 1}}, 3},
		{"the second part later", turning{[]int{2, 1, 8, 20, 8}, []int{0, 1, 0, 1, 2}}, 2},
		{"the first part later", turning{[]int{2, 5, 2, 16, 8}, []int{0, 1, 2, 0, 1}}, 2},
	}
	for _, c := range cases {
		wantNumber(t, c.what, impl.StandsAt(c.w.net, c.w.state), c.want)
	}
	for what, w := range windingTurnings() {
		wantNumber(t, what, impl.StandsAt(w.net, w.state), -1)
	}
}

func TestStandsWrong(t *testing.T) {
	for what, w := range wrongTurnings() {
		wantNumber(t, what, impl.StandsAt(w.net, w.state), -1)
	}
}

// Promise 50.

func TestEachNodeTurnsUpToThePeak(t *testing.T) {
	t.Parallel()
	for w, more := range everyTurningFor() {
		peaks := impl.PeakRow(w.net, w.state)
		heights, ok := impl.HeightRow(w.net, w.state)
		if !ok {
			if len(peaks) != 0 {
				t.Fatalf("%v, which is not flat: %v", w, peaks)
			}
			continue
		}
		if want := peaksBy(farTable(w.net), heights); !slices.Equal(peaks, want) {
			t.Fatalf("%v: %v, not %v", w, peaks, want)
		}
		at := impl.StandsAt(w.net, w.state)
		wantTurnedUp(t, w, heights, peaks, at)
		wantTurnedUp(t, w, heights, peaks, max(at, more))
	}
}

func wantTurnedUp(t *testing.T, w turning, heights, peaks []int, turns int) {
	turned := impl.TurnedRow(w.net, w.state, turns)
	if len(turned) != len(w.net) {
		t.Fatalf("%v, %d turns: %v", w, turns, turned)
	}
	for node, often := range turned {
		if often != peaks[node]-heights[node] {
			t.Fatalf("%v, %d turns: %v, from %v to %v", w, turns, turned, heights, peaks)
		}
	}
}

func TestPeakRows(t *testing.T) {
	cases := []struct {
		what string
		w    turning
		want []int
	}{
		{"one node", turning{[]int{0}, []int{2}}, []int{0}},
		{"nodes without neighbours", turning{make([]int, 6), []int{0, 1, 2, 0, 1, 2}}, make([]int, 6)},
		{"all of one kind", turning{impl.RingNet(6), []int{2, 2, 2, 2, 2, 2}}, make([]int, 6)},
		{"a pair that climbs", turning{[]int{2, 1}, []int{2, 0}}, []int{1, 1}},
		{"a pair that falls", turning{[]int{2, 1}, []int{0, 2}}, []int{0, 0}},
		{"a path", turning{impl.PathNet(4), []int{0, 1, 2, 2}}, []int{2, 2, 2, 2}},
		{"up a path of six", turning{impl.PathNet(6), []int{0, 1, 2, 0, 1, 2}}, []int{5, 5, 5, 5, 5, 5}},
		{"down a path of six", turning{impl.PathNet(6), []int{2, 1, 0, 2, 1, 0}}, make([]int, 6)},
		{"a ring of four", turning{impl.RingNet(4), []int{0, 1, 0, 2}}, []int{1, 1, 1, 1}},
		{"up both sides of a ring of six", turning{impl.RingNet(6), []int{0, 1, 2, 0, 2, 1}}, []int{3, 3, 3, 3, 3, 3}},
		{"two parts", turning{[]int{2, 1, 8, 4}, []int{1, 2, 1, 0}}, []int{1, 1, 0, 0}},
		{"two parts, their nodes by turns", turning{[]int{4, 8, 1, 2}, []int{0, 1, 1, 0}}, []int{1, 0, 1, 0}},
		{"a ring beside a path", turning{[]int{6, 5, 3, 16, 40, 16}, []int{0, 1, 1, 0, 1, 2}}, []int{1, 1, 1, 2, 2, 2}},
		{"three pairs", turning{[]int{8, 16, 32, 1, 2, 4}, []int{0, 1, 2, 2, 1, 0}}, []int{0, 0, 1, 0, 0, 1}},
	}
	for _, c := range cases {
		wantRow(t, c.what, impl.PeakRow(c.w.net, c.w.state), c.want)
	}
}

func TestPeakRowsWrong(t *testing.T) {
	for what, w := range windingTurnings() {
		wantRow(t, what, impl.PeakRow(w.net, w.state), nil)
	}
	for what, w := range wrongTurnings() {
		wantRow(t, what, impl.PeakRow(w.net, w.state), nil)
	}
}

// Promise 51.

func TestTwiceRoundItWindsTwice(t *testing.T) {
	t.Parallel()
	for w, tour := range everyRound() {
		winding, ok := impl.WindingOf(w.net, w.state, tour)
		if !ok {
			t.Fatalf("%v round %v: false", w, tour)
		}
		wantWinding(t, w, backwards(tour), -winding)
		if again := twice(tour); len(again) <= impl.MaxTour {
			wantWinding(t, w, again, 2*winding)
		} else {
			wantNoWinding(t, fmt.Sprint(w, again), w, again)
		}
	}
}

// Promise 52.

func TestWithoutRoundsAllIsFlat(t *testing.T) {
	t.Parallel()
	for w := range everyTurning() {
		if impl.WiresOf(w.net) != len(w.net)-countParts(farTable(w.net)) {
			continue
		}
		if !impl.FlatOk(w.net, w.state) || impl.EndsAt(w.net, impl.Wheel, w.state) < 0 {
			t.Fatalf("%v, without rounds, is not flat", w)
		}
	}
}

// Each net without rounds, the states on it by turns.
func TestMostNodesWithoutRoundsAreFlat(t *testing.T) {
	t.Parallel()
	all := power(impl.Wheel, impl.MaxNodes)
	number, nets := 0, 0
	for net := range netsOf(impl.MaxNodes) {
		if impl.WiresOf(net) != impl.MaxNodes-countParts(farTable(net)) {
			continue
		}
		nets++
		for range 27 {
			number = (number + 7919) % all
			state := digitsOf(impl.MaxNodes, impl.Wheel, number)
			if !impl.FlatOk(net, state) || impl.EndsAt(net, impl.Wheel, state) < 0 {
				t.Fatalf("%v on %v, without rounds, is not flat", state, net)
			}
		}
	}
	wantNumber(t, "nets of six nodes without rounds, as is known", nets, 2932)
}

func TestWithARoundSomeStateWinds(t *testing.T) {
	t.Parallel()
	for nodes := 1; nodes < impl.MaxNodes; nodes++ {
		for net := range netsOf(nodes) {
			wantSomeWinds(t, net)
		}
	}
	for net := range shapesOf(impl.MaxNodes) {
		wantSomeWinds(t, net)
	}
}

func wantSomeWinds(t *testing.T, net []int) {
	rounds := impl.WiresOf(net) > len(net)-countParts(farTable(net))
	winds := false
	for state := range statesOf(len(net), impl.Wheel) {
		winds = winds || !impl.FlatOk(net, state)
	}
	if winds != rounds {
		t.Fatalf("%v has rounds: %v, and winds: %v", net, rounds, winds)
	}
}

// The general rules: arguments are never written to, and results are new.

func TestHeightsAreNotWrittenTo(t *testing.T) {
	ring, state, round := []int{10, 5, 10, 5}, []int{0, 1, 0, 2}, []int{0, 1, 2, 3, 0}
	net, given, tour := withSpare(ring), withSpare(state), withSpare(round)
	for range 2 {
		winding, ok := impl.WindingOf(net, given, tour)
		heights, told := impl.HeightRow(net, given)
		peaks := impl.PeakRow(net, given)
		wantNumber(t, "the winding", winding, 0)
		wantNumber(t, "the stand", impl.StandsAt(net, given), 2)
		wantRow(t, "the heights", heights, []int{0, 1, 0, -1})
		wantRow(t, "the peaks", peaks, []int{1, 1, 1, 1})
		if !ok || !told || !impl.FlatOk(net, given) {
			t.Fatal("the ring is not flat")
		}
		overwrite(heights)
		overwrite(peaks)
		wantUnwritten(t, "the net", net, ring)
		wantUnwritten(t, "the state", given, state)
		wantUnwritten(t, "the tour", tour, round)
	}
}

// What the document's examples tell of heights: the path that is left of the ring of 01,03,12,23 with 0122.
func TestHeightsOfTheExamples(t *testing.T) {
	heights, ok := impl.HeightRow(impl.PathNet(4), []int{0, 1, 2, 2})
	wantRow(t, "heights", heights, []int{0, 1, 2, 2})
	if !ok || impl.FlatOk(impl.RingNet(4), []int{0, 1, 2, 2}) {
		t.Fatal("the path is not flat, or the ring is")
	}
}
