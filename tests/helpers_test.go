package tests

import (
	"fmt"
	"iter"
	"math"
	"slices"
	"testing"

	"loop.example/firingnets/impl"
)

// netsOf tells all nets of so many nodes, found without the program: each pair of nodes is wired or not.
func netsOf(nodes int) iter.Seq[[]int] {
	return func(yield func([]int) bool) {
		pairs := nodes * (nodes - 1) / 2
		for wired := range 1 << pairs {
			if !yield(netOfPairs(nodes, wired)) {
				return
			}
		}
	}
}

func netOfPairs(nodes, wired int) []int {
	net := make([]int, nodes)
	for a := range nodes {
		for b := range a {
			if wired&1 == 1 {
				net[a] += 1 << b
				net[b] += 1 << a
			}
			wired >>= 1
		}
	}
	return net
}

// everyNet tells all nets that there are, from one node to MaxNodes.
func everyNet() iter.Seq[[]int] {
	return func(yield func([]int) bool) {
		for nodes := 1; nodes <= impl.MaxNodes; nodes++ {
			for net := range netsOf(nodes) {
				if !yield(net) {
					return
				}
			}
		}
	}
}

// ordersOf tells all orders of so many numbers.
func ordersOf(numbers int) [][]int {
	if numbers == 0 {
		return [][]int{{}}
	}
	var orders [][]int
	for _, shorter := range ordersOf(numbers - 1) {
		for place := range numbers {
			orders = append(orders, slices.Insert(slices.Clone(shorter), place, numbers-1))
		}
	}
	return orders
}

// orderDrawer draws orders of so many numbers, six at a time if there are as many.
func orderDrawer() func(numbers int) [][]int {
	orders := make([][][]int, impl.MaxNodes+1)
	for numbers := range orders {
		orders[numbers] = ordersOf(numbers)
	}
	place := 0
	return func(numbers int) [][]int {
		var drawn [][]int
		for range min(len(orders[numbers]), 6) {
			// 7 shares no divisor with the number of orders, so that each order has its turn.
			place = (place + 7) % len(orders[numbers])
			drawn = append(drawn, orders[numbers][place])
		}
		return drawn
	}
}

// statesOf tells all states of so many nodes and kinds, found without the program.
func statesOf(nodes, kinds int) iter.Seq[[]int] {
	return func(yield func([]int) bool) {
		row := make([]int, nodes)
		more := true
		everyRow(row, 0, 0, kinds-1, func() {
			more = more && yield(slices.Clone(row))
		})
	}
}

// everyState tells all states that there are, each behind its number of kinds.
func everyState() iter.Seq2[int, []int] {
	return func(yield func(int, []int) bool) {
		for kinds := impl.LeastKinds; kinds <= impl.MaxKinds; kinds++ {
			for nodes := 1; nodes <= impl.MaxNodes; nodes++ {
				for state := range statesOf(nodes, kinds) {
					if !yield(kinds, state) {
						return
					}
				}
			}
		}
	}
}

// power has a number times itself, so often.
func power(number, often int) int {
	all := 1
	for range often {
		all *= number
	}
	return all
}

func inSet(set, node int) bool {
	return set&(1<<node) != 0
}

func nodesIn(set int) int {
	count := 0
	for node := range impl.MaxNodes {
		if inSet(set, node) {
			count++
		}
	}
	return count
}

// farTable has the distances of all pairs of nodes, -1 for none, by another way than the program's: by way of each node in turn.
func farTable(net []int) [][]int {
	far := make([][]int, len(net))
	for a := range net {
		far[a] = make([]int, len(net))
		for b := range net {
			if far[a][b] = -1; inSet(net[a], b) {
				far[a][b] = 1
			}
		}
		far[a][a] = 0
	}
	for by := range net {
		for a := range net {
			for b := range net {
				way := far[a][by] + far[by][b]
				if far[a][by] >= 0 && far[by][b] >= 0 && (far[a][b] < 0 || way < far[a][b]) {
					far[a][b] = way
				}
			}
		}
	}
	return far
}

// distancesBy has the least distances from a set, by farTable.
func distancesBy(far [][]int, set int) []int {
	row := make([]int, len(far))
	for node := range row {
		row[node] = -1
		for from := range far {
			way := far[from][node]
			if inSet(set, from) && way >= 0 && (row[node] < 0 || way < row[node]) {
				row[node] = way
			}
		}
	}
	return row
}

// partsBy has the least node that is come to from each, by farTable.
func partsBy(far [][]int) []int {
	row := make([]int, len(far))
	for node := range row {
		row[node] = slices.IndexFunc(far[node], func(way int) bool { return way >= 0 })
	}
	return row
}

// countParts has the number of parts of a net, by farTable.
func countParts(far [][]int) int {
	count := 0
	for node, least := range partsBy(far) {
		if node == least {
			count++
		}
	}
	return count
}

// wrongNets are none: of no nodes, of too many, and with neighbours that may not be.
func wrongNets() map[string][]int {
	return map[string][]int{
		"nil":                           nil,
		"no nodes":                      {},
		"seven nodes":                   {0, 0, 0, 0, 0, 0, 0},
		"seven nodes in a path":         {2, 5, 10, 20, 40, 80, 32},
		"very many nodes":               make([]int, 1000),
		"one node, negative":            {-1},
		"negative":                      {2, 1, -1},
		"least number":                  {math.MinInt},
		"negative for a pair":           {-2, 1},
		"greatest number":               {0, math.MaxInt},
		"one node, its own neighbour":   {1},
		"its own neighbour":             {2, 1, 4},
		"its own neighbour and another": {3, 1},
		"one way up":                    {2, 0},
		"one way down":                  {0, 1},
		"one way round three":           {2, 4, 1},
		"one node beyond":               {2},
		"next node beyond the net":      {4, 0},
		"node beyond, beside a wire":    {6, 1},
		"node far beyond":               {1 << 40, 0},
		"six nodes, the seventh beyond": {64, 0, 0, 0, 0, 0},
		"six nodes, one way at the end": {0, 0, 0, 0, 0, 1},
	}
}

// wrongKinds are no numbers of kinds: fewer than LeastKinds, or more than MaxKinds.
func wrongKinds() []int {
	return []int{impl.LeastKinds - 1, 1, 0, -1, -3, -5, math.MinInt, impl.MaxKinds + 1, 7, 60, 1 << 32, math.MaxInt}
}

// kindedState is a row beside the number of kinds that it is read with.
type kindedState struct {
	kinds int
	state []int
}

// wrongStates are none: of too few or too many kinds or nodes, and with kinds that may not be.
func wrongStates() map[string]kindedState {
	wrong := map[string]kindedState{
		"the next kind behind three":   {3, []int{3}},
		"the next kind behind four":    {4, []int{0, 4}},
		"the next kind behind five":    {5, []int{0, 1, 5}},
		"the next kind, at first":      {3, []int{3, 0, 1}},
		"a kind below 0":               {3, []int{-1}},
		"a kind below 0 at the end":    {5, []int{0, 0, 0, 0, 0, -1}},
		"a kind below 0 at first":      {4, []int{-2, 0, 0}},
		"the least number for a kind":  {3, []int{0, math.MinInt}},
		"the greatest one for a kind":  {5, []int{math.MaxInt, 0}},
		"a kind that is 0 in 32 bits":  {3, []int{1 << 32}},
		"more nodes, not all at rest":  {5, []int{0, 1, 2, 3, 4, 0, 1}},
		"a kind of more kinds, at six": {4, []int{0, 1, 2, 3, 3, 4}},
	}
	for _, kinds := range []int{3, 4, 5} {
		wrong[fmt.Sprint("nil, of kinds ", kinds)] = kindedState{kinds, nil}
		wrong[fmt.Sprint("no nodes, of kinds ", kinds)] = kindedState{kinds, []int{}}
		wrong[fmt.Sprint("one node too many, of kinds ", kinds)] = kindedState{kinds, make([]int, impl.MaxNodes+1)}
		wrong[fmt.Sprint("very many nodes, of kinds ", kinds)] = kindedState{kinds, make([]int, 1000)}
	}
	for _, kinds := range wrongKinds() {
		wrong[fmt.Sprint("one node, of kinds ", kinds)] = kindedState{kinds, []int{0}}
		wrong[fmt.Sprint("most nodes, of kinds ", kinds)] = kindedState{kinds, make([]int, impl.MaxNodes)}
		wrong[fmt.Sprint("no nodes, of kinds ", kinds)] = kindedState{kinds, nil}
	}
	return wrong
}

// firing is a state of so many kinds of the nodes of a net, which fires.
type firing struct {
	net   []int
	kinds int
	state []int
}

// everyFiring tells all states on all nets of one node to four, and on each net of more nodes a few of each number of kinds.
func everyFiring() iter.Seq[firing] {
	return func(yield func(firing) bool) {
		for nodes := 1; nodes <= impl.MaxNodes; nodes++ {
			for kinds := impl.LeastKinds; kinds <= impl.MaxKinds; kinds++ {
				if !firingsOf(nodes, kinds, yield) {
					return
				}
			}
		}
	}
}

func firingsOf(nodes, kinds int, yield func(firing) bool) bool {
	all := power(kinds, nodes)
	often := all
	switch nodes {
	case 5:
		often = 24
	case 6:
		often = 1
	}
	number := 0
	for net := range netsOf(nodes) {
		for range often {
			// 7919 is a prime, so that each state has its turn.
			number = (number + 7919) % all
			if !yield(firing{net, kinds, digitsOf(nodes, kinds, number)}) {
				return false
			}
		}
	}
	return true
}

// digitsOf has so many digits of a number in a base, the least one first.
func digitsOf(digits, base, number int) []int {
	row := make([]int, digits)
	for place := range row {
		row[place] = number % base
		number /= base
	}
	return row
}

// stepBy has the state behind a step, told node by node and pair by pair.
func stepBy(f firing) []int {
	after := make([]int, len(f.state))
	for node, kind := range f.state {
		switch {
		case kind == f.kinds-1:
			after[node] = 0
		case kind > 0:
			after[node] = kind + 1
		case firesBeside(f, node):
			after[node] = 1
		}
	}
	return after
}

func firesBeside(f firing, node int) bool {
	for other, kind := range f.state {
		if kind == 1 && inSet(f.net[node], other) {
			return true
		}
	}
	return false
}

// historyBy has the states behind no steps, one, and so on up to so many.
func historyBy(f firing, steps int) [][]int {
	return historyFrom(f.state, steps, func(now []int) []int { return stepBy(firing{f.net, f.kinds, now}) })
}

func historyFrom(state []int, steps int, step func([]int) []int) [][]int {
	history := [][]int{slices.Clone(state)}
	for range steps {
		state = step(state)
		history = append(history, state)
	}
	return history
}

// loopBy has the steps before the loop, and those round it, by all states that were met.
func loopBy(f firing) (int, int) {
	return loopFrom(f.state, func(now []int) []int { return stepBy(firing{f.net, f.kinds, now}) })
}

func loopFrom(state []int, step func([]int) []int) (int, int) {
	met := map[[impl.MaxNodes]int]int{}
	for steps := 0; ; steps++ {
		if before, again := met[keyOf(state)]; again {
			return before, steps - before
		}
		met[keyOf(state)] = steps
		state = step(state)
	}
}

// keyOf tells rows of one length apart.
func keyOf(row []int) [impl.MaxNodes]int {
	var key [impl.MaxNodes]int
	copy(key[:], row)
	return key
}

// wrongFirings are none: the net is none, the kinds are none, the state is none, or it has fewer or more nodes than the net.
func wrongFirings() map[string]firing {
	wrong := map[string]firing{}
	for what, net := range wrongNets() {
		wrong[what+", at rest"] = firing{net, 3, make([]int, len(net))}
		wrong[what+", lit"] = firing{net, 3, slices.Repeat([]int{1}, len(net))}
		wrong[what+", of one node"] = firing{net, 3, []int{0}}
		wrong[what+", of most nodes"] = firing{net, 5, make([]int, impl.MaxNodes)}
		wrong[what+", of too many kinds"] = firing{net, impl.MaxKinds + 1, make([]int, len(net))}
	}
	for what, state := range wrongStates() {
		nodes := min(max(len(state.state), 1), impl.MaxNodes)
		wrong[what+", on nodes alone"] = firing{make([]int, nodes), state.kinds, state.state}
		wrong[what+", on a path"] = firing{impl.PathNet(nodes), state.kinds, state.state}
	}
	for nodes := 1; nodes <= impl.MaxNodes; nodes++ {
		for others := range impl.MaxNodes + 2 {
			if others != nodes {
				what := fmt.Sprintf("%d nodes, and a state of %d", nodes, others)
				wrong[what+" at rest"] = firing{make([]int, nodes), 3, make([]int, others)}
				wrong[what+" that are lit"] = firing{impl.PathNet(nodes), 5, slices.Repeat([]int{1}, others)}
			}
		}
	}
	return wrong
}

// turning is a state of Wheel kinds of the nodes of a net, which turns.
type turning struct{ net, state []int }

// everyTurning tells all states on all nets of one node to five, all on one net of six nodes of each shape, and one on each net of six nodes.
func everyTurning() iter.Seq[turning] {
	return func(yield func(turning) bool) {
		for nodes := 1; nodes < impl.MaxNodes; nodes++ {
			if !turningsOn(netsOf(nodes), yield) {
				return
			}
		}
		if turningsOn(shapesOf(impl.MaxNodes), yield) {
			firingsOf(impl.MaxNodes, impl.Wheel, func(f firing) bool { return yield(turning{f.net, f.state}) })
		}
	}
}

func turningsOn(nets iter.Seq[[]int], yield func(turning) bool) bool {
	for net := range nets {
		for state := range statesOf(len(net), impl.Wheel) {
			if !yield(turning{net, state}) {
				return false
			}
		}
	}
	return true
}

// shapesOf tells one net of so many nodes of each shape: all others are one of these with other names for the nodes.
func shapesOf(nodes int) iter.Seq[[]int] {
	return func(yield func([]int) bool) {
		orders := ordersOf(nodes)
		met := map[[impl.MaxNodes]int]bool{}
		for net := range netsOf(nodes) {
			if met[keyOf(net)] {
				continue
			}
			for _, order := range orders {
				met[keyOf(renamedBy(net, order))] = true
			}
			if !yield(net) {
				return
			}
		}
	}
}

// renamedBy has a net with other names for the nodes, told pair by pair.
func renamedBy(net, order []int) []int {
	named := make([]int, len(net))
	for a := range net {
		for b := range net {
			if inSet(net[a], b) {
				named[order[a]] += 1 << order[b]
			}
		}
	}
	return named
}

// turnBy has the state behind a turn, told pair by pair.
func turnBy(w turning) []int {
	next := []int{1, 2, 0}
	after := slices.Clone(w.state)
	for a, kind := range w.state {
		for b, other := range w.state {
			if inSet(w.net[a], b) && other == next[kind] {
				after[a] = other
			}
		}
	}
	return after
}

// turnsBy has the states behind no turns, one, and so on up to so many.
func turnsBy(w turning, turns int) [][]int {
	return historyFrom(w.state, turns, func(now []int) []int { return turnBy(turning{w.net, now}) })
}

// turnLoopBy has the turns before the loop, and those round it, by all states that were met.
func turnLoopBy(w turning) (int, int) {
	return loopFrom(w.state, func(now []int) []int { return turnBy(turning{w.net, now}) })
}

// wrongTurnings are none: the net is none, the state is none of Wheel kinds, or it has fewer or more nodes than the net.
func wrongTurnings() map[string]turning {
	wrong := map[string]turning{}
	for what, f := range wrongFirings() {
		// What is no state of so many kinds is none of Wheel, for these are the fewest.
		if f.kinds >= impl.LeastKinds && f.kinds <= impl.MaxKinds {
			wrong[what] = turning{f.net, f.state}
		}
	}
	for net := range everyWidth() {
		for place := range net {
			for _, kind := range wrongWheelKinds() {
				state := slices.Repeat([]int{1}, len(net))
				state[place] = kind
				wrong[fmt.Sprintf("%d nodes, the kind %d at %d", len(net), kind, place)] = turning{net, state}
			}
		}
	}
	for nodes := 1; nodes <= 3; nodes++ {
		for state := range statesOf(nodes, impl.MaxKinds) {
			if slices.Max(state) >= impl.Wheel {
				wrong[fmt.Sprint("of more kinds, ", state)] = turning{impl.PathNet(nodes), state}
			}
		}
	}
	return wrong
}

// wrongWheelKinds are no kinds of a wheel, though some of them are if they are taken in the round, or in 32 bits.
func wrongWheelKinds() []int {
	return []int{impl.Wheel, 4, 5, 6, -1, -2, -3, 1 << 32, 1<<32 + 1, math.MinInt, math.MaxInt}
}

// wrongWheelStates are those of wrongTurnings that are none by themselves, on each net.
func wrongWheelStates() map[string][]int {
	wrong := map[string][]int{}
	for what, w := range wrongTurnings() {
		outside := slices.ContainsFunc(w.state, func(kind int) bool { return kind < 0 || kind > 2 })
		if len(w.state) < 1 || len(w.state) > impl.MaxNodes || outside {
			wrong[what] = w.state
		}
	}
	return wrong
}

// riseBy has how much one climbs from a node to another one, told kind by kind.
func riseBy(state []int, a, b int) int {
	rises := [3][3]int{{0, 1, -1}, {-1, 0, 1}, {1, -1, 0}}
	return rises[state[a]][state[b]]
}

// climbBy has what a tour climbs, from its last step to its first one.
func climbBy(state, tour []int) int {
	if len(tour) < 2 {
		return 0
	}
	last := len(tour) - 1
	return riseBy(state, tour[last-1], tour[last]) + climbBy(state, tour[:last])
}

// toursFrom tells all tours of a net from a node with so many nodes, those with lesser nodes first.
func toursFrom(net []int, node, nodes int) iter.Seq[[]int] {
	return func(yield func([]int) bool) {
		goOn(net, []int{node}, nodes, yield)
	}
}

func goOn(net, tour []int, nodes int, yield func([]int) bool) bool {
	if len(tour) == nodes {
		return yield(slices.Clone(tour))
	}
	for other := range net {
		if inSet(net[tour[len(tour)-1]], other) && !goOn(net, append(slices.Clip(tour), other), nodes, yield) {
			return false
		}
	}
	return true
}

// drawnTour has a tour of so many nodes, drawn by a number, the node of which is the first one; of one node if that has no neighbours.
func drawnTour(net []int, number, nodes int) []int {
	tour := []int{number % len(net)}
	for len(tour) < nodes {
		var near []int
		for other := range net {
			if inSet(net[tour[len(tour)-1]], other) {
				near = append(near, other)
			}
		}
		if len(near) == 0 {
			break
		}
		// The high digits of such numbers are as good as drawn.
		number = (number*1103515245 + 12345) % (1 << 31)
		tour = append(tour, near[number>>16%len(near)])
	}
	return tour
}

// drawnRound has a tour of so many nodes, drawn by a number, with a shortest way back from its last node to the first one behind it.
func drawnRound(net []int, number, nodes int) []int {
	tour := drawnTour(net, number, nodes)
	far, home := farTable(net), tour[0]
	for last := tour[len(tour)-1]; last != home; last = tour[len(tour)-1] {
		nearer := far[last][home] - 1
		tour = append(tour, slices.IndexFunc(far, func(way []int) bool { return way[last] == 1 && way[home] == nearer }))
	}
	return tour
}

const noWay = -1 << 40

// climbTable has the most that ways between all pairs of nodes climb, as farTable has the distances: by way of each node in turn, 0 for no step. If some tour that comes back climbs, there is a node from which to itself it is more than 0.
func climbTable(w turning) [][]int {
	table := make([][]int, len(w.net))
	for a := range w.net {
		table[a] = slices.Repeat([]int{noWay}, len(w.net))
		for b := range w.net {
			if inSet(w.net[a], b) {
				table[a][b] = riseBy(w.state, a, b)
			}
		}
		table[a][a] = 0
	}
	for by := range w.net {
		for a := range w.net {
			for b := range w.net {
				if table[a][by] > noWay && table[by][b] > noWay {
					table[a][b] = max(table[a][b], table[a][by]+table[by][b])
				}
			}
		}
	}
	return table
}

// heightsBy has the heights by climbTable, and false if there are none.
func heightsBy(w turning) ([]int, bool) {
	table := climbTable(w)
	row := make([]int, len(w.net))
	for node, least := range partsBy(farTable(w.net)) {
		if table[node][node] > 0 {
			return nil, false
		}
		row[node] = table[least][node]
	}
	return row, true
}

// peaksBy has the greatest of the heights of the part of each node, by farTable.
func peaksBy(far [][]int, heights []int) []int {
	row := slices.Clone(heights)
	for node := range row {
		for other, height := range heights {
			if far[node][other] >= 0 {
				row[node] = max(row[node], height)
			}
		}
	}
	return row
}

// wrongTours are none of a net.
func wrongTours(net []int) map[string][]int {
	wrong := map[string][]int{
		"nil":                     nil,
		"no nodes":                {},
		"a node twice":            {0, 0},
		"the last node twice":     {len(net) - 1, len(net) - 1},
		"very many nodes":         slices.Repeat([]int{0, 1}, 500),
		"one node, very often":    make([]int, 1000),
		"one node, too often":     make([]int, impl.MaxTour+1),
		"a node too many":         slices.Repeat([]int{0, 1}, impl.MaxTour)[:impl.MaxTour+1],
		"a wrong node far beyond": append(slices.Repeat([]int{0, 1}, impl.MaxTour/2), -1),
	}
	for _, node := range append(wrongNumbers(), len(net), impl.MaxNodes, 63, 65) {
		wrong[fmt.Sprint(node, " alone")] = []int{node}
		wrong[fmt.Sprint(node, " twice")] = []int{node, node}
		wrong[fmt.Sprint("to ", node)] = []int{0, node}
		wrong[fmt.Sprint("from ", node)] = []int{node, 0}
		wrong[fmt.Sprint("by way of ", node)] = []int{0, node, 0}
	}
	for a := range net {
		for b := range net {
			if !inSet(net[a], b) {
				wrong[fmt.Sprint("no neighbours: ", a, b)] = []int{a, b}
			}
		}
	}
	return wrong
}

// wrongSteps are no numbers of steps of a run.
func wrongSteps() []int {
	return []int{-1, -2, -60, -1 << 32, math.MinInt, impl.MaxRun + 1, impl.MaxRun + 2, 1 << 32, 1<<32 + 1, math.MaxInt}
}

// wrongNodes are no numbers of nodes.
func wrongNodes() []int {
	return append(wrongNumbers(), 0, impl.MaxNodes+1, 63, 65)
}

// wrongNumbers are below 0, or beyond each net.
func wrongNumbers() []int {
	return []int{-1, -2, -64, math.MinInt, 1 << impl.MaxNodes, 1 << 32, 1 << 62, math.MaxInt}
}

func wantRow(t *testing.T, what string, got, want []int) {
	t.Helper()
	if !slices.Equal(got, want) {
		t.Fatalf("%s: %v, not %v", what, got, want)
	}
}

func wantNumber(t *testing.T, what string, got, want int) {
	t.Helper()
	if got != want {
		t.Fatalf("%s: %d, not %d", what, got, want)
	}
}

// wantNone is for what stands beside false: a row without numbers.
func wantNone(t *testing.T, what string, row []int, ok bool) {
	t.Helper()
	if ok || len(row) != 0 {
		t.Fatalf("%s: %v, %v", what, row, ok)
	}
}

const spareMark = 77

// withSpare has the same numbers with spare capacity behind them, which is marked.
func withSpare(row []int) []int {
	long := append(slices.Clone(row), spareMark, spareMark, spareMark, spareMark, spareMark, spareMark, spareMark)
	return long[:len(row)]
}

// wantUnwritten reports a row of withSpare of which a number, or the spare capacity, is not as it was.
func wantUnwritten(t *testing.T, what string, row, before []int) {
	t.Helper()
	wantRow(t, what+" is written to", row, before)
	for _, number := range row[len(row):cap(row)][:7] {
		wantNumber(t, what+" is written to behind its end", number, spareMark)
	}
}

// overwrite writes to all that a row has, its spare capacity too.
func overwrite(row []int) {
	row = row[:cap(row)]
	for place := range row {
		row[place] = -9
	}
}
