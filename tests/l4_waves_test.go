package tests

import (
	"fmt"
	"iter"
	"math"
	"slices"
	"testing"

	"loop.example/firingnets/impl"
)

// wave goes out from the nodes of a set that are lit, of so many kinds.
type wave struct {
	net   []int
	kinds int
	set   int
}

// everyWave tells all sets of nodes of all nets, with each number of kinds, but with one of them in turn if there are six nodes; and the distances by which the waves have to arrive.
func everyWave() iter.Seq2[wave, []int] {
	return func(yield func(wave, []int) bool) {
		turn := 0
		for net := range everyNet() {
			far := farTable(net)
			for set := range 1 << len(net) {
				turn++
				if !wavesFrom(net, set, turn, distancesBy(far, set), yield) {
					return
				}
			}
		}
	}
}

func wavesFrom(net []int, set, turn int, want []int, yield func(wave, []int) bool) bool {
	for kinds := impl.LeastKinds; kinds <= impl.MaxKinds; kinds++ {
		// There are three numbers of kinds, and 64 sets of six nodes: so each set has its turn with each of them.
		left := len(net) == impl.MaxNodes && (turn+kinds)%3 != 0
		if !left && !yield(wave{net, kinds, set}, want) {
			return false
		}
	}
	return true
}

// waveBy has the states of a wave, by historyBy.
func waveBy(w wave, steps int) [][]int {
	lit := make([]int, len(w.net))
	for node := range lit {
		if inSet(w.set, node) {
			lit[node] = 1
		}
	}
	return historyBy(firing{w.net, w.kinds, lit}, steps)
}

// wrongWaves have a net that is none, kinds that are none, or a set that is none of the net.
func wrongWaves() map[string]wave {
	wrong := map[string]wave{}
	add := func(what string, w wave) { wrong[fmt.Sprint(what, w)] = w }
	for what, net := range wrongNets() {
		for kinds := impl.LeastKinds; kinds <= impl.MaxKinds; kinds++ {
			for _, set := range []int{0, 1, -1} {
				add(what, wave{net, kinds, set})
			}
		}
	}
	for net := range everyWidth() {
		for _, kinds := range wrongKinds() {
			for _, set := range []int{0, 1, 1<<len(net) - 1, -1} {
				add("kinds that are none", wave{net, kinds, set})
			}
		}
		for kinds := impl.LeastKinds; kinds <= impl.MaxKinds; kinds++ {
			for _, set := range append(wrongNumbers(), 1<<len(net), 1<<len(net)+1, 1<<len(net)+1<<32) {
				add("a set that is none", wave{net, kinds, set})
			}
		}
	}
	return wrong
}

// stepsFor are numbers of steps for lights: from 0 on, up to more than nodes, and beyond what a run may have.
func stepsFor(nodes int) []int {
	steps := []int{impl.MaxRun, impl.MaxRun + 1, 1 << 32, math.MaxInt}
	for few := range nodes + 2 {
		steps = append(steps, few)
	}
	return steps
}

// stepsBelowNone are no numbers of steps for lights.
func stepsBelowNone() []int {
	return []int{-1, -2, -6, -60, -1 << 32, math.MinInt + 1, math.MinInt}
}

// Promise 26.

func TestWavesArriveByDistance(t *testing.T) {
	t.Parallel()
	for w, want := range everyWave() {
		row, far := impl.ArrivalRow(w.net, w.kinds, w.set), impl.DistancesFrom(w.net, w.set)
		if !slices.Equal(row, want) || !slices.Equal(row, far) {
			t.Fatalf("%v: %v, not %v or %v", w, row, want, far)
		}
	}
}

func TestArrivalsAreTheFirstFirings(t *testing.T) {
	t.Parallel()
	for w := range everyWave() {
		if len(w.net) > 5 {
			return
		}
		want := slices.Repeat([]int{-1}, len(w.net))
		for step, state := range waveBy(w, 12) {
			for node, kind := range state {
				if kind == 1 && want[node] < 0 {
					want[node] = step
				}
			}
		}
		if row := impl.ArrivalRow(w.net, w.kinds, w.set); !slices.Equal(row, want) {
			t.Fatalf("%v: %v, not %v", w, row, want)
		}
	}
}

func TestEachNodeOfAWaveFiresJustOnce(t *testing.T) {
	t.Parallel()
	for w := range everyWave() {
		fired := impl.FiredRow(w.net, w.kinds, impl.LitState(len(w.net), w.set), 12)
		for node, step := range impl.ArrivalRow(w.net, w.kinds, w.set) {
			// Lit ones fire at first, which is no step.
			if (fired[node] == 1) != (step > 0) || fired[node] > 1 || (step == 0) != inSet(w.set, node) {
				t.Fatalf("%v: %v, wrong for %d, which comes at %d", w, fired, node, step)
			}
		}
	}
}

func TestArrivalRows(t *testing.T) {
	path, ring := impl.PathNet(6), impl.RingNet(6)
	cases := []struct {
		what string
		w    wave
		want []int
	}{
		{"one node without a light", wave{[]int{0}, 3, 0}, []int{-1}},
		{"one node that is lit", wave{[]int{0}, 3, 1}, []int{0}},
		{"one node that is lit, of most kinds", wave{[]int{0}, 5, 1}, []int{0}},
		{"a path without lights", wave{path, 3, 0}, []int{-1, -1, -1, -1, -1, -1}},
		{"a path of which all is lit", wave{path, 4, 63}, []int{0, 0, 0, 0, 0, 0}},
		{"a path, of least kinds", wave{path, 3, 1}, []int{0, 1, 2, 3, 4, 5}},
		{"a path, of most kinds", wave{path, 5, 1}, []int{0, 1, 2, 3, 4, 5}},
		{"a path from its end", wave{path, 3, 32}, []int{5, 4, 3, 2, 1, 0}},
		{"a path from both ends", wave{path, 4, 33}, []int{0, 1, 2, 2, 1, 0}},
		{"a ring from its second node", wave{ring, 3, 2}, []int{1, 0, 1, 2, 3, 2}},
		{"a ring from two nodes that are neighbours", wave{ring, 5, 33}, []int{0, 1, 2, 2, 1, 0}},
		{"nodes without neighbours", wave{make([]int, 6), 3, 42}, []int{-1, 0, -1, 0, -1, 0}},
		{"a pair and a node", wave{[]int{2, 1, 0}, 4, 1}, []int{0, 1, -1}},
		{"the node beside a pair", wave{[]int{2, 1, 0}, 4, 4}, []int{-1, -1, 0}},
		{"three pairs, of which two are lit", wave{[]int{8, 16, 32, 1, 2, 4}, 3, 17}, []int{0, 1, -1, 1, 0, -1}},
		{"all are neighbours", wave{[]int{14, 13, 11, 7}, 3, 4}, []int{1, 1, 0, 1}},
		{"a triangle with a tail", wave{[]int{6, 5, 11, 20, 40, 16}, 4, 32}, []int{4, 4, 3, 2, 1, 0}},
	}
	for _, c := range cases {
		wantRow(t, c.what, impl.ArrivalRow(c.w.net, c.w.kinds, c.w.set), c.want)
	}
}

func TestArrivalRowsWrong(t *testing.T) {
	for what, w := range wrongWaves() {
		wantRow(t, what, impl.ArrivalRow(w.net, w.kinds, w.set), nil)
	}
}

// Promise 27.

func TestWavesEndBehindTheLastNode(t *testing.T) {
	t.Parallel()
	for w, far := range everyWave() {
		want := 0
		if w.set != 0 {
			want = slices.Max(far) + w.kinds - 1
		}
		if end := impl.WaveEnd(w.net, w.kinds, w.set); end != want {
			t.Fatalf("%v: %d, not %d", w, end, want)
		}
	}
}

func TestWavesEndWhenAllIsAtRestFirst(t *testing.T) {
	t.Parallel()
	for w := range everyWave() {
		if len(w.net) > 5 {
			return
		}
		want := slices.IndexFunc(waveBy(w, 12), func(state []int) bool { return slices.Max(state) == 0 })
		if end := impl.WaveEnd(w.net, w.kinds, w.set); end != want || want < 0 {
			t.Fatalf("%v: %d, not %d", w, end, want)
		}
	}
}

func TestWaveEnds(t *testing.T) {
	path := impl.PathNet(6)
	cases := []struct {
		what string
		w    wave
		want int
	}{
		{"one node without a light", wave{[]int{0}, 3, 0}, 0},
		{"one node that is lit", wave{[]int{0}, 3, 1}, 2},
		{"one node that is lit, of most kinds", wave{[]int{0}, 5, 1}, 4},
		{"no lights", wave{path, 5, 0}, 0},
		{"all is lit", wave{path, 4, 63}, 3},
		{"a path, of least kinds", wave{path, 3, 1}, 7},
		{"a path, of most kinds", wave{path, 5, 32}, 9},
		{"a path from both ends", wave{path, 3, 33}, 4},
		{"a ring", wave{impl.RingNet(6), 4, 8}, 6},
		{"nodes without neighbours", wave{make([]int, 6), 3, 1}, 2},
		{"a path beside a node that is lit", wave{[]int{2, 5, 2, 0}, 3, 8}, 2},
		{"the path of these", wave{[]int{2, 5, 2, 0}, 3, 1}, 4},
		{"two parts, the second one longer", wave{[]int{2, 1, 8, 20, 40, 16}, 3, 5}, 5},
	}
	for _, c := range cases {
		wantNumber(t, c.what, impl.WaveEnd(c.w.net, c.w.kinds, c.w.set), c.want)
	}
}

func TestWaveEndsWrong(t *testing.T) {
	for what, w := range wrongWaves() {
		wantNumber(t, what, impl.WaveEnd(w.net, w.kinds, w.set), -1)
	}
}

// Promise 28.

func TestWithNoStepsAllAreLitAndInTheEndOneOfEachPart(t *testing.T) {
	t.Parallel()
	for net := range everyNet() {
		parts := countParts(farTable(net))
		last := impl.FewestLights(net, 0)
		if last != len(net) {
			t.Fatalf("%v, no steps: %d", net, last)
		}
		for steps := 1; steps <= len(net)+1; steps++ {
			fewest := impl.FewestLights(net, steps)
			if fewest > last || fewest < parts || steps >= len(net) && fewest != parts {
				t.Fatalf("%v, %d steps: %d, and with one step fewer %d, of %d parts", net, steps, fewest, last, parts)
			}
			last = fewest
		}
	}
}

func TestMoreStepsThanARunMayHave(t *testing.T) {
	t.Parallel()
	for net := range everyNet() {
		parts := partsBy(farTable(net))
		least := 0
		for _, part := range parts {
			least |= 1 << part
		}
		for _, steps := range []int{impl.MaxRun, impl.MaxRun + 1, 1 << 32, math.MaxInt} {
			// The least node of each part lights it as well as any other one does.
			if fewest, lights := impl.FewestLights(net, steps), impl.LightsFor(net, steps); fewest != nodesIn(least) || lights != least {
				t.Fatalf("%v, %d steps: %d, %b, not %b", net, steps, fewest, lights, least)
			}
		}
	}
}

// Promise 29.

func TestSoManyLightsSuffice(t *testing.T) {
	t.Parallel()
	for net := range everyNet() {
		for steps := range len(net) + 2 {
			lights := impl.LightsFor(net, steps)
			row := impl.ArrivalRow(net, 3, lights)
			if nodesIn(lights) != impl.FewestLights(net, steps) || len(row) != len(net) || slices.Min(row) < 0 || slices.Max(row) > steps {
				t.Fatalf("%v, %d steps: %b, %v", net, steps, lights, row)
			}
		}
	}
}

func TestLightsAreTheFewestAndTheLeast(t *testing.T) {
	t.Parallel()
	for net := range everyNet() {
		comes := lastArrivals(net)
		for steps := range len(net) + 2 {
			want := -1
			for set, last := range comes {
				if last >= 0 && last <= steps && (want < 0 || nodesIn(set) < nodesIn(want)) {
					want = set
				}
			}
			if lights, fewest := impl.LightsFor(net, steps), impl.FewestLights(net, steps); lights != want || fewest != nodesIn(want) {
				t.Fatalf("%v, %d steps: %b, %d, not %b", net, steps, lights, fewest, want)
			}
		}
	}
}

// lastArrivals has for each set the distance of the farthest node from it, -1 if one is not come to.
func lastArrivals(net []int) []int {
	far := farTable(net)
	comes := make([]int, 1<<len(net))
	for set := range comes {
		row := distancesBy(far, set)
		comes[set] = slices.Max(row)
		if slices.Min(row) < 0 {
			comes[set] = -1
		}
	}
	return comes
}

func TestLightsOfSomeNets(t *testing.T) {
	star, prism := []int{62, 1, 1, 1, 1, 1}, []int{14, 21, 35, 49, 42, 28}
	cases := []struct {
		what                  string
		net                   []int
		steps, fewest, lights int
	}{
		{"one node, no steps", []int{0}, 0, 1, 1},
		{"one node, one step", []int{0}, 1, 1, 1},
		{"most nodes, no steps", impl.PathNet(6), 0, 6, 63},
		{"nodes without neighbours, no steps", make([]int, 6), 0, 6, 63},
		{"nodes without neighbours, most steps", make([]int, 6), 60, 6, 63},
		{"a path of five, one step", impl.PathNet(5), 1, 2, 9},
		{"a path of five, two steps", impl.PathNet(5), 2, 1, 4},
		{"a path of five, three steps", impl.PathNet(5), 3, 1, 2},
		{"a path of five, four steps", impl.PathNet(5), 4, 1, 1},
		{"a path of six, one step", impl.PathNet(6), 1, 2, 18},
		{"a path of six, two steps", impl.PathNet(6), 2, 2, 9},
		{"a path of six, three steps", impl.PathNet(6), 3, 1, 4},
		{"a path of six, as many steps as nodes", impl.PathNet(6), 6, 1, 1},
		{"a path of six, more steps than nodes", impl.PathNet(6), 7, 1, 1},
		{"a ring of six, one step", impl.RingNet(6), 1, 2, 9},
		{"a ring of six, two steps", impl.RingNet(6), 2, 2, 3},
		{"a ring of six, three steps", impl.RingNet(6), 3, 1, 1},
		{"a star, one step", star, 1, 1, 1},
		{"a path beside a node", []int{2, 5, 2, 0}, 1, 2, 10},
		{"a path beside a node, two steps", []int{2, 5, 2, 0}, 2, 2, 9},
		{"three pairs", []int{8, 16, 32, 1, 2, 4}, 1, 3, 7},
		{"a prism, one step", prism, 1, 2, 9},
		{"the last node is in the middle", []int{32, 32, 32, 32, 32, 31}, 1, 1, 32},
		{"and with two steps each is as good", []int{32, 32, 32, 32, 32, 31}, 2, 1, 1},
	}
	for _, c := range cases {
		wantNumber(t, c.what+", fewest", impl.FewestLights(c.net, c.steps), c.fewest)
		wantNumber(t, c.what+", lights", impl.LightsFor(c.net, c.steps), c.lights)
	}
}

func TestLightsWrong(t *testing.T) {
	for what, net := range wrongNets() {
		for _, steps := range append(stepsBelowNone(), stepsFor(impl.MaxNodes)...) {
			wantNumber(t, fmt.Sprint(what, steps), impl.FewestLights(net, steps), -1)
			wantNumber(t, fmt.Sprint(what, steps), impl.LightsFor(net, steps), -1)
		}
	}
	for net := range everyWidth() {
		for _, steps := range stepsBelowNone() {
			wantNumber(t, fmt.Sprint(net, steps), impl.FewestLights(net, steps), -1)
			wantNumber(t, fmt.Sprint(net, steps), impl.LightsFor(net, steps), -1)
		}
	}
}

// Promise 30.

func TestWavesTogetherArriveWithTheFirstOne(t *testing.T) {
	t.Parallel()
	for w := range everyWave() {
		wantTogether(t, w, w.set&-w.set)
	}
}

func TestAnyTwoWavesTogether(t *testing.T) {
	t.Parallel()
	for w := range everyWave() {
		if len(w.net) > 4 {
			return
		}
		for other := range 1 << len(w.net) {
			wantTogether(t, w, other)
		}
	}
}

func wantTogether(t *testing.T, w wave, other int) {
	one, two := impl.ArrivalRow(w.net, w.kinds, w.set), impl.ArrivalRow(w.net, w.kinds, other)
	for node, step := range impl.ArrivalRow(w.net, w.kinds, w.set|other) {
		want := min(one[node], two[node])
		if want < 0 {
			want = max(one[node], two[node])
		}
		if step != want {
			t.Fatalf("%v, and from %b: %d comes at %d, not %d", w, other, node, step, want)
		}
	}
}

// Promise 31.

func TestOneStepOutItIsOneStepSooner(t *testing.T) {
	t.Parallel()
	for net := range everyNet() {
		for steps := 1; steps <= len(net)+1; steps++ {
			lights := impl.LightsFor(net, steps)
			row := impl.DistancesFrom(net, lights|impl.NearOf(net, lights))
			if len(row) != len(net) || slices.Min(row) < 0 || slices.Max(row) > steps-1 {
				t.Fatalf("%v, %d steps: from %b and its neighbours %v", net, steps, lights, row)
			}
		}
	}
}

// The general rules: arguments are never written to, and results are new.

func TestWavesAreNotWrittenTo(t *testing.T) {
	path := []int{2, 5, 10, 20, 8}
	net := withSpare(path)
	for range 2 {
		row, none := impl.ArrivalRow(net, 3, 9), impl.ArrivalRow(net, 5, 0)
		wantRow(t, "arrivals", row, []int{0, 1, 1, 0, 1})
		wantRow(t, "no arrivals", none, []int{-1, -1, -1, -1, -1})
		wantNumber(t, "the end", impl.WaveEnd(net, 4, 1), 7)
		wantNumber(t, "the fewest lights", impl.FewestLights(net, 1), 2)
		wantNumber(t, "the lights", impl.LightsFor(net, 1), 9)
		overwrite(row)
		overwrite(none)
		wantUnwritten(t, "the net", net, path)
	}
}
