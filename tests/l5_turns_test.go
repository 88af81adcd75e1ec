package tests

import (
	"fmt"
	"iter"
	"slices"
	"testing"

	"loop.example/firingnets/impl"
)

func TestKindsOfAWheel(t *testing.T) {
	wantNumber(t, "Wheel", impl.Wheel, 3)
}

// Each shape of six nodes is there just once: 156 of them, as is known.
func TestShapesOfNets(t *testing.T) {
	for nodes, want := range []int{1, 1, 2, 4, 11, 34, 156} {
		shapes := 0
		for range shapesOf(nodes) {
			shapes++
		}
		wantNumber(t, fmt.Sprint("shapes of nodes ", nodes), shapes, want)
	}
}

// fewTurnings tells each 37th one, for tests with all numbers of turns.
func fewTurnings() iter.Seq[turning] {
	return func(yield func(turning) bool) {
		place := 0
		for w := range everyTurning() {
			if place++; place%37 == 0 && !yield(w) {
				return
			}
		}
	}
}

// everyTurningFor tells all turnings, each with a number of turns that a run may have.
func everyTurningFor() iter.Seq2[turning, int] {
	return func(yield func(turning, int) bool) {
		turns := 0
		for w := range everyTurning() {
			// 7 and 61 share no divisor, so that each number of turns comes up.
			turns = (turns + 7) % (impl.MaxRun + 1)
			if !yield(w, turns) {
				return
			}
		}
	}
}

// Promise 32.

func TestATurnOfEveryState(t *testing.T) {
	t.Parallel()
	for w := range everyTurning() {
		after := impl.TurnStep(w.net, w.state)
		if !slices.Equal(after, turnBy(w)) || !impl.StateOk(impl.Wheel, after) {
			t.Fatalf("%v: %v, not %v", w, after, turnBy(w))
		}
		for node, kind := range w.state {
			if after[node] != kind && after[node] != (kind+1)%3 {
				t.Fatalf("%v: %v, wrong for %d", w, after, node)
			}
		}
	}
}

func TestRaisedKindsTurnAlike(t *testing.T) {
	t.Parallel()
	for w := range everyTurning() {
		raised := impl.TurnStep(w.net, impl.RaisedState(impl.Wheel, w.state))
		if want := impl.RaisedState(impl.Wheel, impl.TurnStep(w.net, w.state)); len(want) == 0 || !slices.Equal(raised, want) {
			t.Fatalf("%v: of the raised state %v, not %v", w, raised, want)
		}
	}
}

func TestAStateOfOneKindAloneStays(t *testing.T) {
	t.Parallel()
	for net := range everyNet() {
		for kind := range impl.Wheel {
			wantStays(t, turning{net, slices.Repeat([]int{kind}, len(net))})
		}
	}
}

func TestNodesWithoutNeighboursStay(t *testing.T) {
	t.Parallel()
	for nodes := 1; nodes <= impl.MaxNodes; nodes++ {
		for state := range statesOf(nodes, impl.Wheel) {
			wantStays(t, turning{make([]int, nodes), state})
		}
	}
}

func wantStays(t *testing.T, w turning) {
	if after := impl.TurnStep(w.net, w.state); !slices.Equal(after, w.state) || !impl.StillOk(w.net, w.state) {
		t.Fatalf("%v does not stay: %v", w, after)
	}
	for _, turns := range []int{0, 1, impl.MaxRun} {
		run, turned := impl.TurnRun(w.net, w.state, turns), impl.TurnedRow(w.net, w.state, turns)
		if !slices.Equal(run, w.state) || !slices.Equal(turned, make([]int, len(w.net))) {
			t.Fatalf("%v, %d turns: %v, %v", w, turns, run, turned)
		}
	}
	if before, long := impl.TurnLoop(w.net, w.state); before != 0 || long != 1 {
		t.Fatalf("%v: %d, %d", w, before, long)
	}
}

func TestTurnSteps(t *testing.T) {
	cases := []struct {
		what string
		w    turning
		want []int
	}{
		{"one node", turning{[]int{0}, []int{0}}, []int{0}},
		{"one node of the last kind", turning{[]int{0}, []int{2}}, []int{2}},
		{"nodes without neighbours", turning{make([]int, 6), []int{0, 1, 2, 0, 1, 2}}, []int{0, 1, 2, 0, 1, 2}},
		{"all of one kind", turning{impl.RingNet(6), []int{2, 2, 2, 2, 2, 2}}, []int{2, 2, 2, 2, 2, 2}},
		{"0 beside 1", turning{[]int{2, 1}, []int{0, 1}}, []int{1, 1}},
		{"1 beside 2", turning{[]int{2, 1}, []int{1, 2}}, []int{2, 2}},
		{"2 beside 0", turning{[]int{2, 1}, []int{2, 0}}, []int{0, 0}},
		{"1 beside 0", turning{[]int{2, 1}, []int{1, 0}}, []int{1, 1}},
		{"0 beside 2", turning{[]int{2, 1}, []int{0, 2}}, []int{0, 0}},
		{"0 between 1 and 2", turning{impl.PathNet(3), []int{1, 0, 2}}, []int{1, 1, 0}},
		{"1 between 0 and 2", turning{impl.PathNet(3), []int{0, 1, 2}}, []int{1, 2, 2}},
		{"2 between 0 and 1", turning{impl.PathNet(3), []int{0, 2, 1}}, []int{0, 0, 2}},
		{"the next kind from both sides", turning{impl.PathNet(3), []int{1, 0, 1}}, []int{1, 1, 1}},
		{"the next kind not next to it", turning{impl.PathNet(4), []int{0, 0, 0, 1}}, []int{0, 0, 1, 1}},
		{"all at once", turning{impl.PathNet(6), []int{0, 1, 2, 0, 1, 2}}, []int{1, 2, 0, 1, 2, 2}},
		{"all at once, the other way round", turning{impl.PathNet(6), []int{2, 1, 0, 2, 1, 0}}, []int{2, 2, 1, 0, 2, 1}},
		{"the next kind in another part", turning{[]int{2, 1, 0}, []int{0, 0, 1}}, []int{0, 0, 1}},
		{"two parts", turning{[]int{2, 1, 8, 4}, []int{0, 1, 0, 2}}, []int{1, 1, 0, 0}},
		{"round a ring of three", turning{impl.RingNet(3), []int{0, 1, 2}}, []int{1, 2, 0}},
		{"the last node pulls the first one", turning{impl.RingNet(6), []int{0, 0, 0, 0, 0, 1}}, []int{1, 0, 0, 0, 1, 1}},
		{"all six are neighbours", turning{[]int{62, 61, 59, 55, 47, 31}, []int{0, 0, 0, 1, 1, 1}}, []int{1, 1, 1, 1, 1, 1}},
	}
	for _, c := range cases {
		wantRow(t, c.what, impl.TurnStep(c.w.net, c.w.state), c.want)
	}
}

func TestTurnStepsWrong(t *testing.T) {
	for what, w := range wrongTurnings() {
		wantRow(t, what, impl.TurnStep(w.net, w.state), nil)
	}
}

// Promise 33.

func TestRunsOfTurnsAreMadeOfRuns(t *testing.T) {
	t.Parallel()
	for w, turns := range everyTurningFor() {
		run, half := impl.TurnRun(w.net, w.state, turns), impl.TurnRun(w.net, w.state, turns/2)
		parts := impl.TurnRun(w.net, half, turns-turns/2)
		if len(run) != len(w.net) || !slices.Equal(run, parts) {
			t.Fatalf("%v, %d turns: %v, not %v", w, turns, parts, run)
		}
	}
}

func TestRunsAreTurnAfterTurn(t *testing.T) {
	t.Parallel()
	for w := range fewTurnings() {
		for turns, want := range turnsBy(w, impl.MaxRun) {
			if run := impl.TurnRun(w.net, w.state, turns); !slices.Equal(run, want) {
				t.Fatalf("%v, %d turns: %v, not %v", w, turns, run, want)
			}
		}
	}
}

func TestTurnRuns(t *testing.T) {
	path, three, six := impl.PathNet(4), impl.RingNet(3), impl.RingNet(6)
	wantRow(t, "one node, no turns", impl.TurnRun([]int{0}, []int{1}, 0), []int{1})
	wantRow(t, "one node, most turns", impl.TurnRun([]int{0}, []int{2}, 60), []int{2})
	wantRow(t, "no turns", impl.TurnRun(path, []int{0, 1, 2, 2}, 0), []int{0, 1, 2, 2})
	wantRow(t, "one turn", impl.TurnRun(path, []int{0, 1, 2, 2}, 1), []int{1, 2, 2, 2})
	wantRow(t, "two turns", impl.TurnRun(path, []int{0, 1, 2, 2}, 2), []int{2, 2, 2, 2})
	wantRow(t, "what is still since then", impl.TurnRun(path, []int{0, 1, 2, 2}, 60), []int{2, 2, 2, 2})
	wantRow(t, "most turns of three", impl.TurnRun(three, []int{0, 1, 2}, 60), []int{0, 1, 2})
	wantRow(t, "one turn fewer", impl.TurnRun(three, []int{0, 1, 2}, 59), []int{2, 0, 1})
	wantRow(t, "most turns of six", impl.TurnRun(six, []int{0, 0, 1, 1, 2, 2}, 60), []int{0, 0, 1, 1, 2, 2})
	wantRow(t, "one turn of six", impl.TurnRun(six, []int{0, 0, 1, 1, 2, 2}, 1), []int{0, 1, 1, 2, 2, 0})
	wantRow(t, "a ring beside a path", impl.TurnRun([]int{6, 5, 3, 16, 40, 16}, []int{0, 1, 2, 0, 1, 2}, 2), []int{2, 0, 1, 2, 2, 2})
}

func TestTurnRunsWrong(t *testing.T) {
	wantNoWrongTurns(t, impl.TurnRun)
}

func wantNoWrongTurns(t *testing.T, run func(net []int, state []int, turns int) []int) {
	t.Helper()
	for what, w := range wrongTurnings() {
		for _, turns := range []int{0, 1, impl.MaxRun, -1} {
			wantRow(t, fmt.Sprint(what, ", turns ", turns), run(w.net, w.state, turns), nil)
		}
	}
	for net := range everyWidth() {
		for _, turns := range wrongSteps() {
			for kind := range impl.Wheel {
				state := slices.Repeat([]int{kind}, len(net))
				state[0] = 0
				wantRow(t, fmt.Sprint(net, state, turns), run(net, state, turns), nil)
			}
		}
	}
}

// Promise 34.

func TestCountedTurnsTellTheState(t *testing.T) {
	t.Parallel()
	for w, turns := range everyTurningFor() {
		turned, run := impl.TurnedRow(w.net, w.state, turns), impl.TurnRun(w.net, w.state, turns)
		if len(turned) != len(w.net) || len(run) != len(w.net) {
			t.Fatalf("%v, %d turns: %v, %v", w, turns, turned, run)
		}
		for node, often := range turned {
			if often < 0 || often > turns || run[node] != (w.state[node]+often)%3 {
				t.Fatalf("%v, %d turns: %v, %v, wrong for %d", w, turns, turned, run, node)
			}
			wantNearAsOften(t, w, turned, node)
		}
	}
}

func wantNearAsOften(t *testing.T, w turning, turned []int, node int) {
	for other, often := range turned {
		if inSet(w.net[node], other) && turned[node]-often > 2 {
			t.Fatalf("%v: %v, %d far more often than %d", w, turned, node, other)
		}
	}
}

func TestTurnsAreCountedAlongTheWay(t *testing.T) {
	t.Parallel()
	for w := range fewTurnings() {
		want, last := make([]int, len(w.net)), w.state
		for turns, state := range turnsBy(w, impl.MaxRun) {
			for node, kind := range state {
				if kind != last[node] {
					want[node]++
				}
			}
			last = state
			if turned := impl.TurnedRow(w.net, w.state, turns); !slices.Equal(turned, want) {
				t.Fatalf("%v, %d turns: %v, not %v", w, turns, turned, want)
			}
		}
	}
}

func TestTurnedRows(t *testing.T) {
	path, ring := impl.PathNet(4), impl.RingNet(4)
	wantRow(t, "one node", impl.TurnedRow([]int{0}, []int{1}, 60), []int{0})
	wantRow(t, "nodes without neighbours", impl.TurnedRow(make([]int, 6), []int{0, 1, 2, 0, 1, 2}, 60), make([]int, 6))
	wantRow(t, "all of one kind", impl.TurnedRow(ring, []int{1, 1, 1, 1}, 60), []int{0, 0, 0, 0})
	wantRow(t, "no turns", impl.TurnedRow(path, []int{0, 1, 2, 2}, 0), []int{0, 0, 0, 0})
	wantRow(t, "one turn", impl.TurnedRow(path, []int{0, 1, 2, 2}, 1), []int{1, 1, 0, 0})
	wantRow(t, "one turn from the last kind to 0", impl.TurnedRow([]int{2, 1}, []int{2, 0}, 1), []int{1, 0})
	wantRow(t, "five turns", impl.TurnedRow(path, []int{0, 1, 2, 2}, 5), []int{2, 1, 0, 0})
	wantRow(t, "most turns of what is still soon", impl.TurnedRow(path, []int{0, 1, 2, 2}, 60), []int{2, 1, 0, 0})
	wantRow(t, "up a path of six", impl.TurnedRow(impl.PathNet(6), []int{0, 1, 2, 0, 1, 2}, 60), []int{5, 4, 3, 2, 1, 0})
	wantRow(t, "three turns of three, which tell the state of before", impl.TurnedRow(impl.RingNet(3), []int{0, 1, 2}, 3), []int{3, 3, 3})
	wantRow(t, "most turns of three", impl.TurnedRow(impl.RingNet(3), []int{0, 1, 2}, 60), []int{60, 60, 60})
	wantRow(t, "most turns of six", impl.TurnedRow(impl.RingNet(6), []int{0, 0, 1, 1, 2, 2}, 60), []int{30, 30, 30, 30, 30, 30})
	wantRow(t, "a ring beside a path", impl.TurnedRow([]int{6, 5, 3, 16, 40, 16}, []int{0, 1, 2, 0, 1, 2}, 60), []int{60, 60, 60, 2, 1, 0})
}

func TestTurnedRowsWrong(t *testing.T) {
	wantNoWrongTurns(t, impl.TurnedRow)
}

// Promise 35.

func TestWhatIsStillStaysSo(t *testing.T) {
	t.Parallel()
	for w, turns := range everyTurningFor() {
		still, none := impl.StillOk(w.net, w.state), make([]int, len(w.net))
		if still != slices.Equal(impl.TurnedRow(w.net, w.state, 1), none) || still != slices.Equal(turnBy(w), w.state) {
			t.Fatalf("%v: not %v", w, still)
		}
		if !still {
			continue
		}
		run, turned := impl.TurnRun(w.net, w.state, turns), impl.TurnedRow(w.net, w.state, turns)
		if !slices.Equal(run, w.state) || !slices.Equal(turned, none) {
			t.Fatalf("%v, which is still, %d turns: %v, %v", w, turns, run, turned)
		}
	}
}

// Of two neighbours that differ one has the next kind of the other one.
func TestStillIsWhereNeighboursAreAlike(t *testing.T) {
	t.Parallel()
	for w := range everyTurning() {
		alike := true
		for node, near := range w.net {
			for other := range node {
				alike = alike && (!inSet(near, other) || w.state[node] == w.state[other])
			}
		}
		if impl.StillOk(w.net, w.state) != alike {
			t.Fatalf("%v: not %v", w, alike)
		}
	}
}

func TestStatesThatAreStill(t *testing.T) {
	cases := []struct {
		what  string
		w     turning
		still bool
	}{
		{"one node", turning{[]int{0}, []int{2}}, true},
		{"nodes without neighbours", turning{make([]int, 6), []int{0, 1, 2, 2, 1, 0}}, true},
		{"a pair of one kind", turning{[]int{2, 1}, []int{1, 1}}, true},
		{"a pair of 0 and 1", turning{[]int{2, 1}, []int{0, 1}}, false},
		{"a pair of 2 and 0", turning{[]int{2, 1}, []int{2, 0}}, false},
		{"two parts, each of one kind", turning{[]int{2, 1, 8, 4}, []int{1, 1, 2, 2}}, true},
		{"two parts, the second one not still", turning{[]int{2, 1, 8, 4}, []int{1, 1, 2, 0}}, false},
		{"six nodes of one kind", turning{impl.RingNet(6), []int{2, 2, 2, 2, 2, 2}}, true},
		{"one of six of another kind", turning{impl.RingNet(6), []int{2, 2, 2, 2, 2, 1}}, false},
	}
	for _, c := range cases {
		if impl.StillOk(c.w.net, c.w.state) != c.still {
			t.Fatalf("%s: not %v", c.what, c.still)
		}
	}
}

func TestStatesThatNeverAreStill(t *testing.T) {
	cases := []turning{
		{impl.RingNet(3), []int{0, 1, 2}},
		{impl.RingNet(3), []int{0, 2, 1}},
		{impl.RingNet(4), []int{0, 1, 2, 2}},
		{impl.RingNet(6), []int{0, 0, 1, 1, 2, 2}},
		{impl.RingNet(6), []int{0, 1, 2, 0, 1, 2}},
		{[]int{6, 5, 3, 0, 0, 0}, []int{2, 1, 0, 0, 0, 0}},
	}
	for _, w := range cases {
		for turns := range impl.MaxRun + 1 {
			if run := impl.TurnRun(w.net, w.state, turns); impl.StillOk(w.net, run) {
				t.Fatalf("%v is still after turns %d", w, turns)
			}
		}
	}
}

func TestStillOkOfWrong(t *testing.T) {
	for what, w := range wrongTurnings() {
		if impl.StillOk(w.net, w.state) {
			t.Fatalf("%s: %v is still", what, w)
		}
	}
}

// Promise 36.

func TestTurnsComeToALoop(t *testing.T) {
	t.Parallel()
	for w := range everyTurning() {
		before, long := impl.TurnLoop(w.net, w.state)
		if before < 0 || long < 1 || before+long > power(3, len(w.net)) {
			t.Fatalf("%v: %d, %d", w, before, long)
		}
		higher, longer := impl.TurnLoop(w.net, impl.RaisedState(impl.Wheel, w.state))
		if higher != before || longer != long {
			t.Fatalf("%v: %d, %d, and raised %d, %d", w, before, long, higher, longer)
		}
		wantSameTurned(t, w, before, long)
	}
}

func wantSameTurned(t *testing.T, w turning, before, long int) {
	if before+long > impl.MaxRun {
		return
	}
	first := impl.TurnRun(w.net, w.state, before)
	if again := impl.TurnRun(w.net, w.state, before+long); !slices.Equal(first, again) {
		t.Fatalf("%v: %d, %d: %v is not %v", w, before, long, again, first)
	}
	if still := impl.StillOk(w.net, first); still != (long == 1) {
		t.Fatalf("%v: %d, %d, though %v is still: %v", w, before, long, first, still)
	}
}

func TestLoopsOfTurnsAreTheFirstAndTheShortest(t *testing.T) {
	t.Parallel()
	for w := range everyTurning() {
		before, long := impl.TurnLoop(w.net, w.state)
		if first, least := turnLoopBy(w); before != first || long != least {
			t.Fatalf("%v: %d, %d, not %d, %d", w, before, long, first, least)
		}
	}
}

func TestTurnLoops(t *testing.T) {
	cases := []struct {
		what         string
		w            turning
		before, long int
	}{
		{"one node", turning{[]int{0}, []int{2}}, 0, 1},
		{"nodes without neighbours", turning{make([]int, 6), []int{0, 1, 2, 0, 1, 2}}, 0, 1},
		{"all of one kind", turning{impl.RingNet(6), []int{1, 1, 1, 1, 1, 1}}, 0, 1},
		{"a pair", turning{[]int{2, 1}, []int{2, 0}}, 1, 1},
		{"a path", turning{impl.PathNet(4), []int{0, 1, 2, 2}}, 2, 1},
		{"up a path of six", turning{impl.PathNet(6), []int{0, 1, 2, 0, 1, 2}}, 5, 1},
		{"a ring of three", turning{impl.RingNet(3), []int{0, 1, 2}}, 0, 3},
		{"a ring of three that comes to be still", turning{impl.RingNet(3), []int{0, 1, 1}}, 1, 1},
		{"a ring of four", turning{impl.RingNet(4), []int{0, 1, 2, 2}}, 0, 4},
		{"a ring of five", turning{impl.RingNet(5), []int{0, 1, 1, 2, 2}}, 0, 5},
		{"once round a ring of six", turning{impl.RingNet(6), []int{0, 0, 1, 1, 2, 2}}, 0, 6},
		{"twice round a ring of six", turning{impl.RingNet(6), []int{0, 1, 2, 0, 1, 2}}, 0, 3},
		{"a ring of five, not in its loop yet", turning{impl.RingNet(5), []int{0, 1, 0, 1, 2}}, 1, 5},
		{"a ring beside a path", turning{[]int{6, 5, 3, 16, 40, 16}, []int{0, 1, 2, 0, 1, 2}}, 2, 3},
		{"two pairs, the second one later", turning{[]int{2, 1, 8, 20, 8}, []int{0, 1, 0, 1, 2}}, 2, 1},
		{"a long way to a loop of three", turning{[]int{24, 36, 10, 21, 9, 2}, []int{2, 2, 1, 0, 1, 0}}, 6, 3},
		{"a long way to a loop of four", turning{[]int{12, 40, 17, 19, 12, 2}, []int{2, 2, 0, 1, 0, 0}}, 4, 4},
	}
	for _, c := range cases {
		before, long := impl.TurnLoop(c.w.net, c.w.state)
		wantNumber(t, c.what+", before", before, c.before)
		wantNumber(t, c.what+", long", long, c.long)
	}
}

func TestTurnLoopsWrong(t *testing.T) {
	for what, w := range wrongTurnings() {
		before, long := impl.TurnLoop(w.net, w.state)
		wantNumber(t, what+", before", before, -1)
		wantNumber(t, what+", long", long, -1)
	}
}

// Promise 37.

func TestRenamedNetsTurnAsBefore(t *testing.T) {
	t.Parallel()
	drawn := orderDrawer()
	for w := range everyTurning() {
		for _, order := range drawn(len(w.net)) {
			wantTurnRenamed(t, w, order)
		}
	}
}

func wantTurnRenamed(t *testing.T, w turning, order []int) {
	net, _ := impl.NamedNet(w.net, order)
	state, _ := impl.NamedState(impl.Wheel, w.state, order)
	want, ok := impl.NamedState(impl.Wheel, impl.TurnStep(w.net, w.state), order)
	if after := impl.TurnStep(net, state); !ok || !slices.Equal(after, want) {
		t.Fatalf("%v by %v: %v, not %v", w, order, after, want)
	}
}

// Promise 38.

func TestTurnsAreCountedInParts(t *testing.T) {
	t.Parallel()
	for w, turns := range everyTurningFor() {
		all, first := impl.TurnedRow(w.net, w.state, turns), impl.TurnedRow(w.net, w.state, turns/2)
		half := impl.TurnRun(w.net, w.state, turns/2)
		second := impl.TurnedRow(w.net, half, turns-turns/2)
		if len(all) != len(w.net) || len(first) != len(w.net) || len(second) != len(w.net) {
			t.Fatalf("%v, %d turns: %v, but %v and %v", w, turns, all, first, second)
		}
		for node, often := range all {
			if first[node]+second[node] != often {
				t.Fatalf("%v, %d turns: %v, but %v and %v", w, turns, all, first, second)
			}
		}
	}
}

// The general rules: arguments are never written to, and results are new.

func TestTurningsAreNotWrittenTo(t *testing.T) {
	ring, state := []int{10, 5, 10, 5}, []int{0, 1, 2, 2}
	net, given := withSpare(ring), withSpare(state)
	for range 2 {
		step := impl.TurnStep(net, given)
		none, run := impl.TurnRun(net, given, 0), impl.TurnRun(net, given, 60)
		turned, unturned := impl.TurnedRow(net, given, 6), impl.TurnedRow(net, given, 0)
		before, long := impl.TurnLoop(net, given)
		wantRow(t, "the loop", []int{before, long}, []int{0, 4})
		wantRow(t, "a turn", step, []int{1, 2, 2, 0})
		wantRow(t, "no turns", none, state)
		wantRow(t, "a run", run, state)
		wantRow(t, "turned", turned, []int{5, 4, 4, 5})
		wantRow(t, "not turned", unturned, []int{0, 0, 0, 0})
		if impl.StillOk(net, given) {
			t.Fatal("the ring is still")
		}
		for _, row := range [][]int{step, none, run, turned, unturned} {
			overwrite(row)
		}
		wantUnwritten(t, "the net", net, ring)
		wantUnwritten(t, "the state", given, state)
	}
}

// A state that is still is not given back itself.
func TestStillStatesAreNew(t *testing.T) {
	pair, state := []int{2, 1}, []int{2, 2}
	given := withSpare(state)
	for range 2 {
		overwrite(impl.TurnStep(pair, given))
		overwrite(impl.TurnRun(pair, given, 1))
		wantUnwritten(t, "the state", given, state)
	}
}

// What the document's examples tell of turning: the ring of 01,03,12,23 with 0122.
func TestTurningOfTheExamples(t *testing.T) {
	wantRow(t, "turned 6", impl.TurnedRow(impl.RingNet(4), []int{0, 1, 2, 2}, 6), []int{5, 4, 4, 5})
}
