package tests

import (
	"fmt"
	"iter"
	"slices"
	"testing"

	"loop.example/firingnets/impl"
)

func TestMostSteps(t *testing.T) {
	wantNumber(t, "MaxRun", impl.MaxRun, 60)
}

// Promise 18.

func TestAStepOfEveryFiring(t *testing.T) {
	t.Parallel()
	for f := range everyFiring() {
		after := impl.FireStep(f.net, f.kinds, f.state)
		if !slices.Equal(after, stepBy(f)) || !impl.StateOk(f.kinds, after) {
			t.Fatalf("%v: %v, not %v", f, after, stepBy(f))
		}
	}
}

func TestRenamedNetsFireAsBefore(t *testing.T) {
	t.Parallel()
	drawn := orderDrawer()
	for f := range everyFiring() {
		for _, order := range drawn(len(f.net)) {
			wantRenamed(t, f, order)
		}
	}
}

func wantRenamed(t *testing.T, f firing, order []int) {
	net, _ := impl.NamedNet(f.net, order)
	state, _ := impl.NamedState(f.kinds, f.state, order)
	want, ok := impl.NamedState(f.kinds, impl.FireStep(f.net, f.kinds, f.state), order)
	after := impl.FireStep(net, f.kinds, state)
	if !ok || !slices.Equal(after, want) {
		t.Fatalf("%v by %v: %v, not %v", f, order, after, want)
	}
}

func TestAllAtRestStaysSo(t *testing.T) {
	t.Parallel()
	for net := range everyNet() {
		for kinds := impl.LeastKinds; kinds <= impl.MaxKinds; kinds++ {
			wantAtRest(t, net, kinds)
		}
	}
}

func wantAtRest(t *testing.T, net []int, kinds int) {
	rest := make([]int, len(net))
	if !slices.Equal(impl.FireStep(net, kinds, rest), rest) {
		t.Fatalf("%v of %d kinds: a step from rest", net, kinds)
	}
	for _, steps := range []int{0, 1, impl.MaxRun} {
		run, fired := impl.FireRun(net, kinds, rest, steps), impl.FiredRow(net, kinds, rest, steps)
		if !slices.Equal(run, rest) || !slices.Equal(fired, rest) {
			t.Fatalf("%v of %d kinds: %d steps from rest: %v, %v", net, kinds, steps, run, fired)
		}
	}
	before, long := impl.LoopOf(net, kinds, rest)
	if ends := impl.EndsAt(net, kinds, rest); before != 0 || long != 1 || ends != 0 {
		t.Fatalf("%v of %d kinds: from rest: %d, %d, %d", net, kinds, before, long, ends)
	}
}

func TestFireSteps(t *testing.T) {
	cases := []struct {
		what string
		f    firing
		want []int
	}{
		{"one node at rest", firing{[]int{0}, 3, []int{0}}, []int{0}},
		{"one node that fires", firing{[]int{0}, 3, []int{1}}, []int{2}},
		{"one tired node", firing{[]int{0}, 3, []int{2}}, []int{0}},
		{"one tired node of four kinds", firing{[]int{0}, 4, []int{2}}, []int{3}},
		{"one node of the last kind", firing{[]int{0}, 5, []int{4}}, []int{0}},
		{"nodes without neighbours", firing{make([]int, 6), 5, []int{0, 1, 2, 3, 4, 1}}, []int{0, 2, 3, 4, 0, 2}},
		{"a neighbour that fires", firing{[]int{2, 1}, 3, []int{0, 1}}, []int{1, 2}},
		{"a tired neighbour", firing{[]int{2, 1}, 3, []int{0, 2}}, []int{0, 0}},
		{"two that fire", firing{[]int{2, 1}, 3, []int{1, 1}}, []int{2, 2}},
		{"a tired node beside one that fires", firing{[]int{2, 1}, 4, []int{2, 1}}, []int{3, 2}},
		{"one that fires not next to all", firing{impl.PathNet(4), 3, []int{1, 0, 0, 0}}, []int{2, 1, 0, 0}},
		{"from both sides", firing{impl.PathNet(3), 3, []int{1, 0, 1}}, []int{2, 1, 2}},
		{"all at once", firing{impl.PathNet(4), 3, []int{1, 0, 0, 2}}, []int{2, 1, 0, 0}},
		{"another part fires", firing{[]int{2, 1, 0}, 3, []int{0, 0, 1}}, []int{0, 0, 2}},
		{"round a ring", firing{impl.RingNet(6), 5, []int{1, 0, 0, 0, 3, 2}}, []int{2, 1, 0, 0, 4, 3}},
		{"the last node lights the first one", firing{impl.RingNet(6), 4, []int{0, 3, 3, 3, 2, 1}}, []int{1, 0, 0, 0, 3, 2}},
	}
	for _, c := range cases {
		wantRow(t, c.what, impl.FireStep(c.f.net, c.f.kinds, c.f.state), c.want)
	}
}

func TestFireStepsWrong(t *testing.T) {
	for what, f := range wrongFirings() {
		wantRow(t, what, impl.FireStep(f.net, f.kinds, f.state), nil)
	}
}

// Promise 19.

func TestRunsAreMadeOfRuns(t *testing.T) {
	t.Parallel()
	steps := 0
	for f := range everyFiring() {
		// 7 and 61 share no divisor, so that each number of steps has its turn.
		steps = (steps + 7) % (impl.MaxRun + 1)
		run := impl.FireRun(f.net, f.kinds, f.state, steps)
		half := impl.FireRun(f.net, f.kinds, f.state, steps/2)
		if parts := impl.FireRun(f.net, f.kinds, half, steps-steps/2); !slices.Equal(run, parts) {
			t.Fatalf("%v, %d steps: %v, not %v", f, steps, parts, run)
		}
	}
}

func TestRunsAreStepAfterStep(t *testing.T) {
	t.Parallel()
	for f := range fewFirings() {
		for steps, want := range historyBy(f, impl.MaxRun) {
			if run := impl.FireRun(f.net, f.kinds, f.state, steps); !slices.Equal(run, want) {
				t.Fatalf("%v, %d steps: %v, not %v", f, steps, run, want)
			}
		}
	}
}

// fewFirings tells each 37th one, for tests with all numbers of steps.
func fewFirings() iter.Seq[firing] {
	return func(yield func(firing) bool) {
		place := 0
		for f := range everyFiring() {
			if place++; place%37 == 0 && !yield(f) {
				return
			}
		}
	}
}

func TestFireRuns(t *testing.T) {
	path, ring := impl.PathNet(4), impl.RingNet(4)
	wantRow(t, "one node, no steps", impl.FireRun([]int{0}, 3, []int{1}, 0), []int{1})
	wantRow(t, "one node, most steps", impl.FireRun([]int{0}, 3, []int{1}, 60), []int{0})
	wantRow(t, "no steps", impl.FireRun(path, 4, []int{3, 1, 0, 2}, 0), []int{3, 1, 0, 2})
	wantRow(t, "one step", impl.FireRun(path, 4, []int{1, 0, 0, 0}, 1), []int{2, 1, 0, 0})
	wantRow(t, "three steps", impl.FireRun(path, 4, []int{1, 0, 0, 0}, 3), []int{0, 3, 2, 1})
	wantRow(t, "what comes to rest", impl.FireRun(path, 4, []int{1, 0, 0, 0}, 60), []int{0, 0, 0, 0})
	wantRow(t, "most steps round a ring of four", impl.FireRun(ring, 3, []int{1, 0, 0, 2}, 60), []int{1, 0, 0, 2})
	wantRow(t, "one step fewer", impl.FireRun(ring, 3, []int{1, 0, 0, 2}, 59), []int{0, 0, 2, 1})
	wantRow(t, "most steps round a ring of six", impl.FireRun(impl.RingNet(6), 5, []int{1, 0, 0, 4, 3, 2}, 60), []int{1, 0, 0, 4, 3, 2})
}

func TestFireRunsWrong(t *testing.T) {
	wantNoWrongRuns(t, impl.FireRun)
}

func wantNoWrongRuns(t *testing.T, run func(net []int, kinds int, state []int, steps int) []int) {
	t.Helper()
	for what, f := range wrongFirings() {
		for _, steps := range []int{0, 1, impl.MaxRun, -1} {
			wantRow(t, what, run(f.net, f.kinds, f.state, steps), nil)
		}
	}
	for net := range everyWidth() {
		for _, steps := range wrongSteps() {
			for kinds := impl.LeastKinds; kinds <= impl.MaxKinds; kinds++ {
				wantRow(t, fmt.Sprint(net, kinds, steps), run(net, kinds, make([]int, len(net)), steps), nil)
			}
		}
	}
}

// Promise 20.

func TestNoNodeFiresMoreOftenThanItRecovers(t *testing.T) {
	t.Parallel()
	steps := 0
	for f := range everyFiring() {
		// 7 and 61 share no divisor, so that each number of steps has its turn.
		steps = (steps + 7) % (impl.MaxRun + 1)
		fired := impl.FiredRow(f.net, f.kinds, f.state, steps)
		if len(fired) != len(f.net) {
			t.Fatalf("%v, %d steps: %v", f, steps, fired)
		}
		for node, often := range fired {
			if often < 0 || often > steps/f.kinds+1 || f.net[node] == 0 && often > 0 {
				t.Fatalf("%v, %d steps: %v, wrong for %d", f, steps, fired, node)
			}
		}
		wantFiredInParts(t, f, steps, fired)
	}
}

func wantFiredInParts(t *testing.T, f firing, steps int, fired []int) {
	half := impl.FireRun(f.net, f.kinds, f.state, steps/2)
	first := impl.FiredRow(f.net, f.kinds, f.state, steps/2)
	second := impl.FiredRow(f.net, f.kinds, half, steps-steps/2)
	for node, often := range fired {
		if first[node]+second[node] != often {
			t.Fatalf("%v, %d steps: %v, but %v and %v", f, steps, fired, first, second)
		}
	}
}

func TestFiringsAreCountedAlongTheWay(t *testing.T) {
	t.Parallel()
	for f := range fewFirings() {
		want := make([]int, len(f.net))
		for steps, state := range historyBy(f, impl.MaxRun) {
			for node, kind := range state {
				if steps > 0 && kind == 1 {
					want[node]++
				}
			}
			if fired := impl.FiredRow(f.net, f.kinds, f.state, steps); !slices.Equal(fired, want) {
				t.Fatalf("%v, %d steps: %v, not %v", f, steps, fired, want)
			}
		}
	}
}

func TestFiredRows(t *testing.T) {
	path, ring := impl.PathNet(4), impl.RingNet(4)
	wantRow(t, "one node that fires at first", impl.FiredRow([]int{0}, 3, []int{1}, 60), []int{0})
	wantRow(t, "nodes without neighbours", impl.FiredRow(make([]int, 6), 3, []int{1, 1, 0, 2, 1, 0}, 60), make([]int, 6))
	wantRow(t, "no steps", impl.FiredRow(path, 4, []int{1, 0, 0, 0}, 0), []int{0, 0, 0, 0})
	wantRow(t, "one step", impl.FiredRow(path, 4, []int{1, 0, 0, 0}, 1), []int{0, 1, 0, 0})
	wantRow(t, "most steps of what comes to rest", impl.FiredRow(path, 4, []int{1, 0, 0, 0}, 60), []int{0, 1, 1, 1})
	wantRow(t, "eight steps round a ring of four", impl.FiredRow(ring, 3, []int{1, 0, 0, 2}, 8), []int{2, 2, 2, 2})
	wantRow(t, "most steps round a ring of four", impl.FiredRow(ring, 3, []int{1, 0, 0, 2}, 60), []int{15, 15, 15, 15})
	wantRow(t, "most steps round a ring of three", impl.FiredRow(impl.RingNet(3), 3, []int{1, 0, 2}, 60), []int{20, 20, 20})
	wantRow(t, "a ring beside a path", impl.FiredRow([]int{6, 5, 3, 16, 40, 16}, 3, []int{1, 0, 2, 1, 0, 0}, 60), []int{20, 20, 20, 0, 1, 1})
}

func TestFiredRowsWrong(t *testing.T) {
	wantNoWrongRuns(t, impl.FiredRow)
}

// Promise 21.

func TestEachStateComesToALoop(t *testing.T) {
	t.Parallel()
	for f := range everyFiring() {
		before, long := impl.LoopOf(f.net, f.kinds, f.state)
		if before < 0 || long < 1 || before+long > power(f.kinds, len(f.net)) {
			t.Fatalf("%v: %d, %d", f, before, long)
		}
		wantSameAgain(t, f, before, long)
		later, longer := impl.LoopOf(f.net, f.kinds, stepBy(f))
		if later != max(before-1, 0) || longer != long {
			t.Fatalf("%v: %d, %d, and a step on %d, %d", f, before, long, later, longer)
		}
	}
}

func wantSameAgain(t *testing.T, f firing, before, long int) {
	if before+long > impl.MaxRun {
		return
	}
	first := impl.FireRun(f.net, f.kinds, f.state, before)
	if again := impl.FireRun(f.net, f.kinds, f.state, before+long); !slices.Equal(first, again) {
		t.Fatalf("%v: %d, %d: %v is not %v", f, before, long, again, first)
	}
}

func TestLoopsAreTheFirstAndTheShortest(t *testing.T) {
	t.Parallel()
	for f := range everyFiring() {
		before, long := impl.LoopOf(f.net, f.kinds, f.state)
		if first, least := loopBy(f); before != first || long != least {
			t.Fatalf("%v: %d, %d, not %d, %d", f, before, long, first, least)
		}
	}
}

func TestLoopsOfSomeStates(t *testing.T) {
	cases := []struct {
		what                string
		f                   firing
		before, long, endAt int
	}{
		{"one node at rest", firing{[]int{0}, 3, []int{0}}, 0, 1, 0},
		{"one node that fires", firing{[]int{0}, 3, []int{1}}, 2, 1, 2},
		{"one node that fires, of five kinds", firing{[]int{0}, 5, []int{1}}, 4, 1, 4},
		{"one node of the last kind", firing{[]int{0}, 5, []int{4}}, 1, 1, 1},
		{"nodes without neighbours", firing{make([]int, 6), 4, []int{0, 1, 2, 3, 0, 1}}, 3, 1, 3},
		{"nodes without neighbours at rest", firing{make([]int, 6), 5, make([]int, 6)}, 0, 1, 0},
		{"a path", firing{impl.PathNet(4), 3, []int{1, 0, 0, 0}}, 5, 1, 5},
		{"the longest path, of most kinds", firing{impl.PathNet(6), 5, []int{1, 0, 0, 0, 0, 0}}, 9, 1, 9},
		{"a ring that is lit at one node", firing{impl.RingNet(6), 3, []int{1, 0, 0, 0, 0, 0}}, 5, 1, 5},
		{"round a ring of three", firing{impl.RingNet(3), 3, []int{1, 0, 2}}, 0, 3, -1},
		{"round a ring of four", firing{impl.RingNet(4), 3, []int{1, 0, 0, 2}}, 0, 4, -1},
		{"twice round a ring of six", firing{impl.RingNet(6), 3, []int{1, 0, 2, 1, 0, 2}}, 0, 3, -1},
		{"once round a ring of six", firing{impl.RingNet(6), 5, []int{1, 0, 0, 4, 3, 2}}, 0, 6, -1},
		{"to a loop first, then round it", firing{impl.RingNet(4), 3, []int{0, 1, 2, 2}}, 1, 4, -1},
		{"a ring with a tail", firing{[]int{6, 5, 11, 20, 40, 16}, 3, []int{1, 0, 2, 0, 0, 0}}, 4, 3, -1},
		{"one part in a loop, the other one at rest later", firing{[]int{6, 5, 3, 16, 40, 16}, 3, []int{1, 0, 2, 1, 0, 0}}, 4, 3, -1},
		{"a long way to a short loop", firing{[]int{50, 53, 42, 20, 11, 7}, 4, []int{1, 3, 0, 2, 1, 0}}, 10, 4, -1},
	}
	for _, c := range cases {
		before, long := impl.LoopOf(c.f.net, c.f.kinds, c.f.state)
		wantNumber(t, c.what+", before", before, c.before)
		wantNumber(t, c.what+", long", long, c.long)
		wantNumber(t, c.what+", ends", impl.EndsAt(c.f.net, c.f.kinds, c.f.state), c.endAt)
	}
}

func TestLoopsWrong(t *testing.T) {
	for what, f := range wrongFirings() {
		before, long := impl.LoopOf(f.net, f.kinds, f.state)
		wantNumber(t, what+", before", before, -1)
		wantNumber(t, what+", long", long, -1)
	}
}

// Promise 22.

func TestWhatComesToRestStaysSo(t *testing.T) {
	t.Parallel()
	for f := range everyFiring() {
		ends := impl.EndsAt(f.net, f.kinds, f.state)
		before, long := loopBy(f)
		rest := make([]int, len(f.net))
		atRest := long == 1 && slices.Equal(historyBy(f, before)[before], rest)
		if (ends >= 0) != atRest || ends < -1 || ends > impl.MaxRun {
			t.Fatalf("%v: %d, but %d, %d", f, ends, before, long)
		}
		if ends >= 0 && !slices.Equal(impl.FireRun(f.net, f.kinds, f.state, ends), rest) {
			t.Fatalf("%v: not at rest after %d", f, ends)
		}
		if ends > 0 && slices.Equal(impl.FireRun(f.net, f.kinds, f.state, ends-1), rest) {
			t.Fatalf("%v: at rest before %d", f, ends)
		}
	}
}

func TestEndsAtWrong(t *testing.T) {
	for what, f := range wrongFirings() {
		wantNumber(t, what, impl.EndsAt(f.net, f.kinds, f.state), -1)
	}
}

// Promise 23.

func TestPartsFireByThemselves(t *testing.T) {
	t.Parallel()
	for f := range everyFiring() {
		parts := impl.PartsOf(f.net)
		together := impl.FireStep(f.net, f.kinds, f.state)
		for node, part := range parts {
			if node == part {
				wantPartAlone(t, f, parts, part, together)
			}
		}
	}
}

func wantPartAlone(t *testing.T, f firing, parts []int, part int, together []int) {
	alone, want := make([]int, len(f.net)), make([]int, len(f.net))
	for node := range f.net {
		if parts[node] == part {
			alone[node], want[node] = f.state[node], together[node]
		}
	}
	if after := impl.FireStep(f.net, f.kinds, alone); !slices.Equal(after, want) {
		t.Fatalf("%v, the part of %d: %v, not %v", f, part, after, want)
	}
}

// Promise 24.

func TestWithoutFireAllComesToRest(t *testing.T) {
	t.Parallel()
	for f := range everyFiring() {
		// The nodes that fire are made tired, so that none does.
		for node, kind := range f.state {
			if kind == 1 {
				f.state[node] = 2
			}
		}
		ends := impl.EndsAt(f.net, f.kinds, f.state)
		if ends < 0 || ends > f.kinds-2 || impl.CountsOf(f.kinds, f.state)[1] != 0 {
			t.Fatalf("%v: %d", f, ends)
		}
		if tired := slices.DeleteFunc(f.state, func(kind int) bool { return kind == 0 }); len(tired) > 0 {
			wantNumber(t, fmt.Sprint(f.kinds, tired), ends, f.kinds-slices.Min(tired))
		}
	}
}

// Promise 25.

func TestWithMoreKindsTheSameNodesFireNext(t *testing.T) {
	t.Parallel()
	for f := range everyFiring() {
		if f.kinds == impl.MaxKinds {
			continue
		}
		fewer := impl.FireStep(f.net, f.kinds, f.state)
		more := impl.FireStep(f.net, f.kinds+1, f.state)
		for node, kind := range f.state {
			asBefore := kind == f.kinds-1 || more[node] == fewer[node]
			if (more[node] == 1) != (fewer[node] == 1) || !asBefore || kind == f.kinds-1 && more[node] != f.kinds {
				t.Fatalf("%v: %v, and with one kind more %v", f, fewer, more)
			}
		}
	}
}

// The general rules: arguments are never written to, and results are new.

func TestFiringsAreNotWrittenTo(t *testing.T) {
	ring, state := []int{10, 5, 10, 5}, []int{1, 0, 0, 2}
	net, given := withSpare(ring), withSpare(state)
	for range 2 {
		step := impl.FireStep(net, 3, given)
		none, run := impl.FireRun(net, 3, given, 0), impl.FireRun(net, 3, given, 60)
		fired, unfired := impl.FiredRow(net, 3, given, 8), impl.FiredRow(net, 3, given, 0)
		before, long := impl.LoopOf(net, 3, given)
		wantNumber(t, "the loop", 10*before+long, 4)
		wantNumber(t, "the end", impl.EndsAt(net, 3, given), -1)
		wantRow(t, "a step", step, []int{2, 1, 0, 0})
		wantRow(t, "no steps", none, state)
		wantRow(t, "a run", run, state)
		wantRow(t, "fired", fired, []int{2, 2, 2, 2})
		wantRow(t, "not fired", unfired, []int{0, 0, 0, 0})
		for _, row := range [][]int{step, none, run, fired, unfired} {
			overwrite(row)
		}
		wantUnwritten(t, "the net", net, ring)
		wantUnwritten(t, "the state", given, state)
	}
}

// What the document's examples tell of firing: the ring of 01,03,12,23 with 0122, parted to a path, lit, and of four kinds.
func TestFiringOfTheExamples(t *testing.T) {
	ring, path, state := impl.RingNet(4), impl.PathNet(4), []int{0, 1, 2, 2}
	wantNumber(t, "ends of the ring", impl.EndsAt(ring, 3, state), -1)
	before, long := impl.LoopOf(ring, 3, state)
	wantRow(t, "loop", []int{before, long}, []int{1, 4})
	wantRow(t, "fired 6", impl.FiredRow(ring, 3, state, 6), []int{2, 1, 1, 2})
	wantNumber(t, "ends of the path", impl.EndsAt(path, 3, state), 3)
	wantRow(t, "a step behind light 0", impl.FireStep(path, 3, []int{1, 1, 2, 2}), []int{2, 2, 0, 0})
	wantNumber(t, "ends with four kinds", impl.EndsAt(path, 4, []int{2, 2, 0, 0}), 2)
}
