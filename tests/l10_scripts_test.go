package tests

import (
	"fmt"
	"iter"
	"math"
	"regexp"
	"slices"
	"strings"
	"testing"

	"loop.example/firingnets/impl"
)

// scripted is a state of so many kinds of the nodes of a net, which fires by a script.
type scripted struct {
	firing
	script []impl.Light
}

// lights has the lights of such times and nodes, told by turns.
func lights(numbers ...int) []impl.Light {
	var script []impl.Light
	for place := 0; place < len(numbers); place += 2 {
		script = append(script, impl.Light{Time: numbers[place], Node: numbers[place+1]})
	}
	return script
}

// lightsBefore has all lights of so many nodes before a time, in order.
func lightsBefore(time, nodes int) []impl.Light {
	var all []impl.Light
	for at := range time {
		for node := range nodes {
			all = append(all, impl.Light{Time: at, Node: node})
		}
	}
	return all
}

// scriptsOf tells all scripts of at most so many of some lights, which are in order.
func scriptsOf(all []impl.Light, most int) iter.Seq[[]impl.Light] {
	return func(yield func([]impl.Light) bool) {
		moreLights(nil, all, most, yield)
	}
}

func moreLights(script, left []impl.Light, most int, yield func([]impl.Light) bool) bool {
	if !yield(slices.Clone(script)) {
		return false
	}
	if most == 0 {
		return true
	}
	for place, light := range left {
		if !moreLights(append(slices.Clip(script), light), left[place+1:], most-1, yield) {
			return false
		}
	}
	return true
}

// drawnScript has at most MaxLights drawn lights, which come early in two scripts of three, so that they meet.
func drawnScript(nodes int, draw func(int) int) []impl.Light {
	before := []int{4, 12, impl.MaxRun}[draw(3)]
	var script []impl.Light
	for range draw(impl.MaxLights + 1) {
		light := impl.Light{Time: draw(before), Node: draw(nodes)}
		if !slices.Contains(script, light) {
			script = append(script, light)
		}
	}
	slices.SortFunc(script, func(a, b impl.Light) int { return rankBy(nodes, a) - rankBy(nodes, b) })
	return script
}

// drawnScripts tells the same drawn scripts each time, many for each number of nodes.
func drawnScripts() iter.Seq2[int, []impl.Light] {
	return func(yield func(int, []impl.Light) bool) {
		draw := drawer()
		for nodes := 1; nodes <= impl.MaxNodes; nodes++ {
			for range 5000 {
				if !yield(nodes, drawnScript(nodes, draw)) {
					return
				}
			}
		}
	}
}

// rankBy has the place of a light among all lights of so many nodes in order, and -1 for what is none of them.
func rankBy(nodes int, light impl.Light) int {
	if light.Time < 0 || light.Time > 59 || light.Node < 0 || light.Node >= nodes {
		return -1
	}
	return light.Time*nodes + light.Node
}

// scriptOkBy reports whether lights are a script, by their places among all lights.
func scriptOkBy(nodes int, script []impl.Light) bool {
	last := -1
	for _, light := range script {
		rank := rankBy(nodes, light)
		if rank <= last {
			return false
		}
		last = rank
	}
	return nodes >= 1 && nodes <= 6 && len(script) <= 8
}

// textBy has the text of a script, light by light.
func textBy(script []impl.Light) string {
	if len(script) == 0 {
		return "."
	}
	text := ""
	for place, light := range script {
		if place > 0 {
			text += ","
		}
		text += fmt.Sprintf("%d:%d", light.Time, light.Node)
	}
	return text
}

const lightText = `(0|[1-9]|[1-5][0-9]):[0-5]`

var someLights = regexp.MustCompile(`^` + lightText + `(,` + lightText + `){0,7}$`)

// readBy reads the text of a script by another grammar than the program's.
func readBy(nodes int, text string) ([]impl.Light, bool) {
	if text == "." {
		return nil, nodes >= 1 && nodes <= 6
	}
	if !someLights.MatchString(text) {
		return nil, false
	}
	var script []impl.Light
	for _, part := range strings.Split(text, ",") {
		var light impl.Light
		fmt.Sscanf(part, "%d:%d", &light.Time, &light.Node)
		script = append(script, light)
	}
	if !scriptOkBy(nodes, script) {
		return nil, false
	}
	return script, true
}

// playBy has the states behind no steps, one, and so on up to so many, by a script, and how often each node has begun to fire by then, told node by node.
func playBy(s scripted, steps int) (states, fired [][]int) {
	states, fired = [][]int{slices.Clone(s.state)}, [][]int{make([]int, len(s.net))}
	for time := range steps {
		lit, often := slices.Clone(states[time]), slices.Clone(fired[time])
		for node, kind := range states[time] {
			if kind == 0 && slices.Contains(s.script, impl.Light{Time: time, Node: node}) {
				lit[node] = 1
			}
		}
		after := stepBy(firing{s.net, s.kinds, lit})
		for node, kind := range states[time] {
			if kind == 0 && (lit[node] == 1 || after[node] == 1) {
				often[node]++
			}
		}
		states, fired = append(states, after), append(fired, often)
	}
	return states, fired
}

// everyScripted tells each firing by a drawn script.
func everyScripted() iter.Seq[scripted] {
	return func(yield func(scripted) bool) {
		draw := drawer()
		for f := range everyFiring() {
			if !yield(scripted{f, drawnScript(len(f.net), draw)}) {
				return
			}
		}
	}
}

// fewScripted tells each 37th one, for tests with all numbers of steps.
func fewScripted() iter.Seq[scripted] {
	return func(yield func(scripted) bool) {
		place := 0
		for s := range everyScripted() {
			if place++; place%37 == 0 && !yield(s) {
				return
			}
		}
	}
}

// smallScripted tells all states on all nets of one node to three, by all scripts of at most two lights before the time 4.
func smallScripted() iter.Seq[scripted] {
	return func(yield func(scripted) bool) {
		for nodes := 1; nodes <= 3; nodes++ {
			for kinds := impl.LeastKinds; kinds <= impl.MaxKinds; kinds++ {
				if !smallScriptedOf(nodes, kinds, yield) {
					return
				}
			}
		}
	}
}

func smallScriptedOf(nodes, kinds int, yield func(scripted) bool) bool {
	for net := range netsOf(nodes) {
		for state := range statesOf(nodes, kinds) {
			for script := range scriptsOf(lightsBefore(4, nodes), 2) {
				if !yield(scripted{firing{net, kinds, state}, script}) {
					return false
				}
			}
		}
	}
	return true
}

// wrongTimes are no times of lights.
func wrongTimes() []int {
	return []int{-1, -2, -60, math.MinInt, impl.MaxRun, impl.MaxRun + 1, 1 << 32, math.MaxInt}
}

// wrongScripts are none of so many nodes: with too many lights, in another order, or with times or nodes that may not be.
func wrongScripts(nodes int) map[string][]impl.Light {
	all := lightsBefore(impl.MaxRun, nodes)
	wrong := map[string][]impl.Light{
		"nine lights":                   all[:impl.MaxLights+1],
		"nine lights, up to the last":   all[len(all)-impl.MaxLights-1:],
		"all lights":                    all,
		"one light, very often":         make([]impl.Light, 1000),
		"a light twice":                 lights(0, 0, 0, 0),
		"the last light twice":          lights(59, nodes-1, 59, nodes-1),
		"a light twice, at the end":     lights(0, 0, 5, 0, 9, nodes-1, 9, nodes-1),
		"a light again later":           lights(0, 0, 5, 0, 0, 0),
		"times that fall":               lights(1, 0, 0, 0),
		"times that fall, nodes rise":   lights(1, 0, 0, nodes-1),
		"times that fall, at the end":   lights(0, 0, 58, 0, 59, 0, 58, 0),
		"times that fall, in between":   lights(0, 0, 9, 0, 8, 0, 59, 0),
		"nine lights, the last one bad": append(slices.Clone(all[:impl.MaxLights]), impl.Light{Time: -1}),
	}
	if nodes > 1 {
		wrong["nodes that fall"] = lights(7, 1, 7, 0)
		wrong["nodes that fall, at the time 0"] = lights(0, nodes-1, 0, 0)
		wrong["nodes that fall, at the last time"] = lights(0, 0, 59, nodes-1, 59, nodes-2)
	}
	for _, time := range wrongTimes() {
		wrong[fmt.Sprint("a light at ", time)] = lights(time, 0)
		wrong[fmt.Sprint("lights at ", time, " first")] = lights(time, 0, 59, nodes-1)
		wrong[fmt.Sprint("lights at ", time, " last")] = lights(0, 0, 1, 0, time, nodes-1)
	}
	for _, node := range append(wrongNumbers(), nodes, nodes+1, impl.MaxNodes) {
		wrong[fmt.Sprint("a light of ", node)] = lights(0, node)
		wrong[fmt.Sprint("a light of ", node, ", at the last time")] = lights(59, node)
		wrong[fmt.Sprint("lights of ", node, " first")] = lights(3, node, 4, 0)
		wrong[fmt.Sprint("lights of ", node, " last")] = lights(3, 0, 4, node)
	}
	return wrong
}

// wrongPlay has a script or something else that is none, or a wrong number of steps.
type wrongPlay struct {
	scripted
	steps int
}

func wrongPlays() map[string]wrongPlay {
	wrong := map[string]wrongPlay{}
	add := func(what string, s scripted, allSteps ...int) {
		for _, steps := range allSteps {
			wrong[fmt.Sprint(what, ", ", steps, " steps of kinds ", s.kinds, " with ", len(s.net))] = wrongPlay{s, steps}
		}
	}
	for what, f := range wrongFirings() {
		add(what+" without lights", scripted{f, nil}, 0, 1, impl.MaxRun, -1)
		add(what+" lit", scripted{f, lights(0, 0)}, 0, 1, impl.MaxRun)
	}
	for net := range everyWidth() {
		for kinds := impl.LeastKinds; kinds <= impl.MaxKinds; kinds++ {
			rest := firing{net, kinds, make([]int, len(net))}
			for what, script := range wrongScripts(len(net)) {
				add(what, scripted{rest, script}, 0, 1, impl.MaxRun)
			}
			add("without lights", scripted{rest, nil}, wrongSteps()...)
			add("lit", scripted{rest, lights(0, 0)}, wrongSteps()...)
		}
	}
	return wrong
}

// Promise 69.

func TestMostLights(t *testing.T) {
	wantNumber(t, "MaxLights", impl.MaxLights, 8)
}

func TestScriptsWithoutLightsAreScripts(t *testing.T) {
	for nodes := -3; nodes <= impl.MaxNodes+3; nodes++ {
		want := nodes >= 1 && nodes <= 6
		if impl.ScriptOk(nodes, nil) != want || impl.ScriptOk(nodes, []impl.Light{}) != want || impl.ScriptOk(nodes, lights(59, 0)) != want {
			t.Fatalf("%d nodes: a script is not %v", nodes, want)
		}
	}
}

func TestAScriptWithoutItsLastLightIsOne(t *testing.T) {
	t.Parallel()
	for nodes, script := range drawnScripts() {
		for most := range len(script) + 1 {
			if !impl.ScriptOk(nodes, script[:most]) {
				t.Fatalf("%d nodes: %v is no script", nodes, script[:most])
			}
		}
	}
}

// All pairs of lights are tried, ones that may not be among them.
func TestScriptsOfOneLightAndOfTwo(t *testing.T) {
	t.Parallel()
	for nodes := 0; nodes <= impl.MaxNodes+1; nodes++ {
		var tried []impl.Light
		for time := -1; time <= impl.MaxRun; time++ {
			for node := -1; node <= nodes; node++ {
				tried = append(tried, impl.Light{Time: time, Node: node})
			}
		}
		one, two := 0, 0
		for _, first := range tried {
			one += wantScript(t, nodes, []impl.Light{first})
			for _, second := range tried {
				two += wantScript(t, nodes, []impl.Light{first, second})
			}
		}
		all := 60 * nodes
		if nodes > impl.MaxNodes {
			all = 0
		}
		wantNumber(t, fmt.Sprint(nodes, " nodes, one light"), one, all)
		wantNumber(t, fmt.Sprint(nodes, " nodes, two lights"), two, all*(all-1)/2)
	}
}

// wantScript holds lights against scriptOkBy, and has 1 if they are a script, and else 0.
func wantScript(t *testing.T, nodes int, script []impl.Light) int {
	want := scriptOkBy(nodes, script)
	if impl.ScriptOk(nodes, script) != want {
		t.Fatalf("%d nodes, %v: not %v", nodes, script, want)
	}
	if want {
		return 1
	}
	return 0
}

// Of all rows of so few lights some rise, and all others are refused.
func TestRowsOfLightsAreScriptsIfTheyRise(t *testing.T) {
	t.Parallel()
	few := lightsBefore(2, 2)
	for size := range 6 {
		found := 0
		row := make([]int, size)
		everyRow(row, 0, 0, len(few)-1, func() {
			script := make([]impl.Light, size)
			for place, number := range row {
				script[place] = few[number]
			}
			found += wantScript(t, 2, script)
		})
		wantNumber(t, fmt.Sprint(size, " lights"), found, []int{1, 4, 6, 4, 1, 0}[size])
	}
}

func TestScriptsOfMostLights(t *testing.T) {
	for nodes := 1; nodes <= impl.MaxNodes; nodes++ {
		all := lightsBefore(impl.MaxRun, nodes)
		for first := range len(all) - 8 {
			if !impl.ScriptOk(nodes, all[first:first+8]) || impl.ScriptOk(nodes, all[first:first+9]) {
				t.Fatalf("%d nodes: eight lights, or nine, from %v on", nodes, all[first])
			}
		}
	}
	if !impl.ScriptOk(1, lights(0, 0, 1, 0, 2, 0, 3, 0, 56, 0, 57, 0, 58, 0, 59, 0)) || !impl.ScriptOk(6, lights(0, 0, 0, 1, 0, 2, 0, 3, 0, 4, 0, 5, 59, 0, 59, 5)) {
		t.Fatal("eight lights are no script")
	}
}

func TestScriptsWrong(t *testing.T) {
	for nodes := 1; nodes <= impl.MaxNodes; nodes++ {
		for what, script := range wrongScripts(nodes) {
			if impl.ScriptOk(nodes, script) {
				t.Fatalf("%d nodes, %s: %v is a script", nodes, what, script)
			}
		}
	}
	for _, nodes := range wrongNodes() {
		for _, script := range [][]impl.Light{nil, {}, lights(0, 0), lights(0, -1), lights(3, 0, 4, 1)} {
			if impl.ScriptOk(nodes, script) {
				t.Fatalf("%d nodes: %v is a script", nodes, script)
			}
		}
	}
}

// Promise 70.

func TestTextsOfScriptsAreRead(t *testing.T) {
	t.Parallel()
	for nodes := 1; nodes <= impl.MaxNodes; nodes++ {
		for script := range scriptsOf(lightsBefore(impl.MaxRun, nodes), 2) {
			wantReadAgain(t, nodes, script)
		}
	}
	for nodes, script := range drawnScripts() {
		wantReadAgain(t, nodes, script)
	}
}

func wantReadAgain(t *testing.T, nodes int, script []impl.Light) {
	text := impl.ScriptText(nodes, script)
	read, ok := impl.ReadScript(nodes, text)
	if text != textBy(script) || !ok || !slices.Equal(read, script) {
		t.Fatalf("%d nodes, %v: %q, read as %v, %v", nodes, script, text, read, ok)
	}
}

func TestScriptTexts(t *testing.T) {
	cases := []struct {
		nodes  int
		script []impl.Light
		want   string
	}{
		{1, nil, "."},
		{6, []impl.Light{}, "."},
		{1, lights(0, 0), "0:0"},
		{6, lights(59, 5), "59:5"},
		{3, lights(0, 0, 0, 2, 4, 1), "0:0,0:2,4:1"},
		{3, lights(9, 2, 10, 0), "9:2,10:0"},
		{1, lights(0, 0, 1, 0, 2, 0, 3, 0, 56, 0, 57, 0, 58, 0, 59, 0), "0:0,1:0,2:0,3:0,56:0,57:0,58:0,59:0"},
		{6, lights(0, 0, 0, 1, 0, 2, 0, 3, 0, 4, 0, 5, 59, 0, 59, 5), "0:0,0:1,0:2,0:3,0:4,0:5,59:0,59:5"},
	}
	for _, c := range cases {
		if text := impl.ScriptText(c.nodes, c.script); text != c.want {
			t.Fatalf("%d nodes, %v: %q, not %q", c.nodes, c.script, text, c.want)
		}
		wantReadAgain(t, c.nodes, c.script)
	}
}

func TestScriptTextsWrong(t *testing.T) {
	for nodes := 1; nodes <= impl.MaxNodes; nodes++ {
		for what, script := range wrongScripts(nodes) {
			if text := impl.ScriptText(nodes, script); text != "" {
				t.Fatalf("%d nodes, %s: %q", nodes, what, text)
			}
		}
	}
	for _, nodes := range wrongNodes() {
		for _, script := range [][]impl.Light{nil, {}, lights(0, 0), lights(3, 0, 4, 1)} {
			if text := impl.ScriptText(nodes, script); text != "" {
				t.Fatalf("%d nodes, %v: %q", nodes, script, text)
			}
		}
	}
}

// Promise 71.

// wantRead holds what is read from a text against readBy, and against its text again.
func wantRead(t *testing.T, nodes int, text string) {
	script, ok := impl.ReadScript(nodes, text)
	want, wantOk := readBy(nodes, text)
	if ok != wantOk || !slices.Equal(script, want) {
		t.Fatalf("%d nodes, %q: %v, %v, not %v, %v", nodes, text, script, ok, want, wantOk)
	}
	if ok && impl.ScriptText(nodes, script) != text {
		t.Fatalf("%d nodes, %q: %v has another text", nodes, text, script)
	}
}

func TestReadScriptsAreCanonical(t *testing.T) {
	t.Parallel()
	for nodes, script := range drawnScripts() {
		text := textBy(script)
		wantRead(t, nodes, text)
		for _, other := range []string{text + ",", "," + text, text + ".", "." + text, text + ":", text + " ", "0" + text, text + ",."} {
			wantNotRead(t, nodes, other)
		}
	}
}

func wantNotRead(t *testing.T, nodes int, text string) {
	t.Helper()
	if script, ok := impl.ReadScript(nodes, text); ok || len(script) != 0 {
		t.Fatalf("%d nodes, %q: %v, %v", nodes, text, script, ok)
	}
}

func TestAllShortTexts(t *testing.T) {
	t.Parallel()
	for signs, most := range map[string]int{"0156:,.-+ ": 6, "01:,.": 8, "059:,": 7} {
		for text := range textsOf(signs, most) {
			wantRead(t, 2, text)
		}
	}
	for text := range textsOf("0159:,.", 5) {
		for nodes := -1; nodes <= impl.MaxNodes+1; nodes++ {
			wantRead(t, nodes, text)
		}
	}
}

// textsOf tells all texts of at most so many of some signs.
func textsOf(signs string, most int) iter.Seq[string] {
	return func(yield func(string) bool) {
		goOnText(signs, "", most, yield)
	}
}

func goOnText(signs, text string, most int, yield func(string) bool) bool {
	if !yield(text) {
		return false
	}
	if most == 0 {
		return true
	}
	for _, sign := range signs {
		if !goOnText(signs, text+string(sign), most-1, yield) {
			return false
		}
	}
	return true
}

// Each text is tried with any byte in place of each one, and ahead of it, and without it.
func TestTextsWithAnotherByte(t *testing.T) {
	t.Parallel()
	texts := []string{".", "0:0", "9:1", "59:5", "0:0,0:1", "1:2,10:0", "0:0,0:2,4:1", "10:5,11:0,59:3", "0:0,0:1,0:2,0:3,0:4,0:5,59:0", "0:0,0:1,0:2,0:3,0:4,0:5,59:0,59:5"}
	for _, text := range texts {
		for nodes := 1; nodes <= impl.MaxNodes; nodes++ {
			for place := range len(text) {
				wantRead(t, nodes, text[:place])
				wantRead(t, nodes, text[:place]+text[place+1:])
				wantReadWithEachByte(t, nodes, text[:place], text[place:], text[place+1:])
			}
			wantReadWithEachByte(t, nodes, text, "")
		}
	}
}

func wantReadWithEachByte(t *testing.T, nodes int, before string, behind ...string) {
	for number := range 256 {
		for _, rest := range behind {
			wantRead(t, nodes, before+string([]byte{byte(number)})+rest)
		}
	}
}

func TestArbitraryBytes(t *testing.T) {
	t.Parallel()
	draw := drawer()
	for range 200000 {
		text := make([]byte, draw(40))
		for place := range text {
			if text[place] = byte(draw(256)); draw(2) > 0 {
				text[place] = "0123456789:,."[draw(13)]
			}
		}
		wantRead(t, draw(impl.MaxNodes)+1, string(text))
	}
}

func TestReadScripts(t *testing.T) {
	cases := []struct {
		nodes int
		text  string
		want  []impl.Light
	}{
		{1, ".", nil},
		{6, ".", nil},
		{1, "0:0", lights(0, 0)},
		{6, "59:5", lights(59, 5)},
		{3, "0:0,7:2", lights(0, 0, 7, 2)},
		{3, "0:0,0:2,4:1", lights(0, 0, 0, 2, 4, 1)},
		{1, "0:0,1:0,2:0,3:0,56:0,57:0,58:0,59:0", lights(0, 0, 1, 0, 2, 0, 3, 0, 56, 0, 57, 0, 58, 0, 59, 0)},
	}
	for _, c := range cases {
		if script, ok := impl.ReadScript(c.nodes, c.text); !ok || !slices.Equal(script, c.want) {
			t.Fatalf("%d nodes, %q: %v, %v, not %v", c.nodes, c.text, script, ok, c.want)
		}
	}
}

func TestReadScriptsWrong(t *testing.T) {
	texts := []string{
		"", " ", ",", ":", ",,", "::", ":,", "-", "+", "0", "00", "12", "0,0", "0 0", "0;0", "0.0",
		"..", ". ", " .", ".,", ",.", ".:", "0:0.", ".0:0", ".,0:0", "0:0,.", "0:0,.,1:0", ".\n", ".\x00",
		",0:0", "0:0,", "0:0,,1:0", "0:0,1:0,", ",0:0,1:0", "0:0,,", ",",
		":0", "0:", "0::0", ":0:0", "0:0:", "0:0:0", "0:0,1", "0:0,1:", "0:0,:1", "0:01:0", "0:0:1:0", "0,0:1",
		"00:0", "0:00", "01:0", "0:01", "0:0,01:0", "0:0,1:00", "000:0",
		"+0:0", "-0:0", "0:+0", "0:-0", "+1:0", "1:+1", "-1:0", "0:-1", "0:0,+1:0", "0:0,1:-0",
		" 0:0", "0 :0", "0: 0", "0:0 ", "0:0, 1:0", "0:0 ,1:0", "\t0:0", "0:0\n", "0:0\r\n", "0:0\x00", "0:0,\n1:0",
		"60:0", "61:0", "99:0", "100:0", "0:6", "0:7", "0:9", "0:10", "0:60", "0:0,60:0", "0:0,1:6",
		"256:0", "0:256", "65536:0", "4294967296:0", "0:4294967296", "9223372036854775807:0", "9223372036854775808:0", "18446744073709551616:0", "0:18446744073709551616", "99999999999999999999999999:0", "0:99999999999999999999999999",
		"0:0,0:0", "0:1,0:0", "1:0,0:0", "1:0,0:5", "59:5,59:5", "0:0,59:0,58:0", "0:0,1:3,1:2,2:0",
		"0:0,1:0,2:0,3:0,4:0,5:0,6:0,7:0,8:0", "0:0,1:0,2:0,3:0,4:0,5:0,6:0,7:0,60:0",
		"0x1:0", "1e1:0", "1_0:0", "0b1:0", "0o1:0", "a:0", "0:a", "٠:0", "0:٠", "0：0", "0:0，1:0", "\xff:0", "0:0\xff", "true", "nil", "{0 0}",
		strings.Repeat("0:0,", 100000) + "0:0", strings.Repeat("0", 100000) + ":0", "0:0" + strings.Repeat(",", 100000), strings.Repeat(".", 100000), strings.Repeat(":", 100000),
	}
	for _, text := range texts {
		for nodes := 1; nodes <= impl.MaxNodes; nodes++ {
			wantNotRead(t, nodes, text)
		}
	}
	for nodes := 1; nodes <= impl.MaxNodes; nodes++ {
		for _, script := range wrongScripts(nodes) {
			wantNotRead(t, nodes, textBy(script))
		}
		wantNotRead(t, nodes, fmt.Sprint("0:", nodes))
		wantNotRead(t, nodes, fmt.Sprint("0:0,59:", nodes))
	}
	for _, nodes := range wrongNodes() {
		for _, text := range []string{"", ".", "0:0", "0:0,7:2", "0:-1"} {
			wantNotRead(t, nodes, text)
		}
	}
}

// Promise 72.

func TestWithoutLightsAScriptIsARun(t *testing.T) {
	t.Parallel()
	steps := 0
	for f := range everyFiring() {
		// 7 and 61 share no divisor, so that each number of steps has its turn.
		steps = (steps + 7) % (impl.MaxRun + 1)
		run := impl.ScriptRun(f.net, f.kinds, f.state, nil, steps)
		if want := impl.FireRun(f.net, f.kinds, f.state, steps); !slices.Equal(run, want) || len(run) != len(f.net) {
			t.Fatalf("%v, %d steps: %v, not %v", f, steps, run, want)
		}
	}
}

// lightsUntil has those lights of a script that come before a time.
func lightsUntil(script []impl.Light, time int) []impl.Light {
	return slices.DeleteFunc(slices.Clone(script), func(light impl.Light) bool { return light.Time >= time })
}

func TestLightsThatComeLaterChangeNothingBefore(t *testing.T) {
	t.Parallel()
	steps := 0
	for s := range everyScripted() {
		steps = (steps + 7) % (impl.MaxRun + 1)
		early := lightsUntil(s.script, steps)
		run := impl.ScriptRun(s.net, s.kinds, s.state, s.script, steps)
		without := impl.ScriptRun(s.net, s.kinds, s.state, early, steps)
		if !slices.Equal(run, without) || len(run) != len(s.net) {
			t.Fatalf("%v, %d steps: %v, and without later lights %v", s, steps, run, without)
		}
		fired := impl.ScriptFired(s.net, s.kinds, s.state, s.script, steps)
		if without := impl.ScriptFired(s.net, s.kinds, s.state, early, steps); !slices.Equal(fired, without) || len(fired) != len(s.net) {
			t.Fatalf("%v, %d steps: fired %v, and without later lights %v", s, steps, fired, without)
		}
	}
}

// wantPlayed holds a run and its firings against such ones of playBy.
func wantPlayed(t *testing.T, s scripted, steps int, state, fired []int) {
	if run := impl.ScriptRun(s.net, s.kinds, s.state, s.script, steps); !slices.Equal(run, state) {
		t.Fatalf("%v, %d steps: %v, not %v", s, steps, run, state)
	}
	if row := impl.ScriptFired(s.net, s.kinds, s.state, s.script, steps); !slices.Equal(row, fired) {
		t.Fatalf("%v, %d steps: fired %v, not %v", s, steps, row, fired)
	}
}

func TestSmallScriptsStepByStep(t *testing.T) {
	t.Parallel()
	for s := range smallScripted() {
		states, fired := playBy(s, 7)
		for steps := range states {
			wantPlayed(t, s, steps, states[steps], fired[steps])
		}
	}
}

func TestDrawnScriptsStepByStep(t *testing.T) {
	t.Parallel()
	steps := 0
	for s := range everyScripted() {
		steps = (steps + 7) % (impl.MaxRun + 1)
		states, fired := playBy(s, steps)
		wantPlayed(t, s, steps, states[steps], fired[steps])
	}
	for s := range fewScripted() {
		states, fired := playBy(s, impl.MaxRun)
		for steps := range states {
			wantPlayed(t, s, steps, states[steps], fired[steps])
		}
	}
}

// What a script does in all steps it does in half of them, and then, with its times told from there, in the others.
func TestScriptsInTwoParts(t *testing.T) {
	t.Parallel()
	steps := 0
	for s := range everyScripted() {
		steps = (steps + 7) % (impl.MaxRun + 1)
		half := steps / 2
		state, fired := impl.ScriptRun(s.net, s.kinds, s.state, s.script, half), impl.ScriptFired(s.net, s.kinds, s.state, s.script, half)
		later := slices.Clone(s.script[len(lightsUntil(s.script, half)):])
		for place := range later {
			later[place].Time -= half
		}
		for node, often := range impl.ScriptFired(s.net, s.kinds, state, later, steps-half) {
			fired[node] += often
		}
		wantPlayed(t, s, steps, impl.ScriptRun(s.net, s.kinds, state, later, steps-half), fired)
	}
}

func TestScriptRuns(t *testing.T) {
	one, pair, path, alone, parts := []int{0}, []int{2, 1}, impl.PathNet(3), make([]int, 6), []int{2, 1, 8, 4, 0}
	cases := []struct {
		what         string
		s            scripted
		steps        int
		state, fired []int
	}{
		{"one node, without lights", scripted{firing{one, 3, []int{0}}, nil}, 60, []int{0}, []int{0}},
		{"one node that fires, without lights", scripted{firing{one, 3, []int{1}}, nil}, 1, []int{2}, []int{0}},
		{"one node, no steps", scripted{firing{one, 3, []int{0}}, lights(0, 0)}, 0, []int{0}, []int{0}},
		{"one node, one step", scripted{firing{one, 3, []int{0}}, lights(0, 0)}, 1, []int{2}, []int{1}},
		{"one node, two steps", scripted{firing{one, 3, []int{0}}, lights(0, 0)}, 2, []int{0}, []int{1}},
		{"one node, until it is at rest", scripted{firing{one, 5, []int{0}}, lights(0, 0)}, 3, []int{4}, []int{1}},
		{"a light on a node that fires", scripted{firing{one, 3, []int{1}}, lights(0, 0)}, 1, []int{2}, []int{0}},
		{"a light on a tired node", scripted{firing{one, 3, []int{2}}, lights(0, 0)}, 1, []int{0}, []int{0}},
		{"a light on a tired node of five kinds", scripted{firing{one, 5, []int{3}}, lights(0, 0)}, 1, []int{4}, []int{0}},
		{"a light on a node of the last kind", scripted{firing{one, 5, []int{4}}, lights(0, 0)}, 1, []int{0}, []int{0}},
		{"a light on a node that is at rest just then", scripted{firing{one, 5, []int{4}}, lights(0, 0, 1, 0)}, 2, []int{2}, []int{1}},
		{"a light that comes too soon", scripted{firing{one, 3, []int{0}}, lights(0, 0, 1, 0)}, 2, []int{0}, []int{1}},
		{"a light that comes again", scripted{firing{one, 3, []int{0}}, lights(0, 0, 2, 0)}, 3, []int{2}, []int{2}},
		{"a light at the last time", scripted{firing{one, 3, []int{0}}, lights(59, 0)}, 60, []int{2}, []int{1}},
		{"a light behind the last step", scripted{firing{one, 3, []int{0}}, lights(59, 0)}, 59, []int{0}, []int{0}},
		{"a light at the time of the last step", scripted{firing{one, 4, []int{0}}, lights(4, 0)}, 5, []int{2}, []int{1}},
		{"a light at the number of steps", scripted{firing{one, 4, []int{0}}, lights(5, 0)}, 5, []int{0}, []int{0}},
		{"most lights on one node, all steps", scripted{firing{one, 3, []int{0}}, lights(0, 0, 1, 0, 2, 0, 3, 0, 4, 0, 5, 0, 6, 0, 59, 0)}, 60, []int{2}, []int{5}},
		{"a light a step later", scripted{firing{path, 3, []int{0, 0, 0}}, lights(1, 0)}, 3, []int{0, 2, 1}, []int{1, 1, 1}},
		{"two lights at once", scripted{firing{path, 3, []int{0, 0, 0}}, lights(0, 0, 0, 2)}, 2, []int{0, 2, 0}, []int{1, 1, 1}},
		{"all lights at once", scripted{firing{path, 3, []int{0, 0, 0}}, lights(0, 0, 0, 1, 0, 2)}, 1, []int{2, 2, 2}, []int{1, 1, 1}},
		{"lights at once on rest, fire and a tired node", scripted{firing{path, 4, []int{0, 2, 1}}, lights(0, 0, 0, 1, 0, 2)}, 1, []int{2, 3, 2}, []int{1, 0, 0}},
		{"a light on a node that a step has lit", scripted{firing{pair, 3, []int{0, 0}}, lights(0, 0, 1, 1)}, 2, []int{0, 2}, []int{1, 1}},
		{"a light ahead of a wave", scripted{firing{path, 3, []int{0, 0, 0}}, lights(0, 0, 1, 2)}, 2, []int{0, 2, 2}, []int{1, 1, 1}},
		{"a light behind a wave goes round", scripted{firing{impl.RingNet(5), 3, []int{0, 0, 0, 0, 0}}, lights(0, 0, 3, 1)}, 4, []int{1, 2, 0, 0, 0}, []int{2, 2, 1, 1, 1}},
		{"and goes round for ever", scripted{firing{impl.RingNet(5), 3, []int{0, 0, 0, 0, 0}}, lights(0, 0, 3, 1)}, 60, []int{2, 0, 0, 0, 1}, []int{13, 13, 12, 12, 13}},
		{"nodes without neighbours", scripted{firing{alone, 4, []int{0, 1, 2, 3, 0, 0}}, lights(0, 0, 0, 1, 0, 2, 0, 3, 1, 5)}, 2, []int{3, 3, 0, 0, 0, 2}, []int{1, 0, 0, 0, 0, 1}},
		{"several parts", scripted{firing{parts, 3, []int{0, 0, 0, 0, 0}}, lights(0, 2, 2, 4)}, 3, []int{0, 0, 0, 0, 2}, []int{0, 0, 1, 1, 1}},
		{"most lights on most nodes", scripted{firing{alone, 5, make([]int, 6)}, lights(0, 0, 0, 1, 0, 2, 0, 3, 0, 4, 0, 5, 4, 0, 59, 5)}, 60, []int{0, 0, 0, 0, 0, 2}, []int{2, 1, 1, 1, 1, 2}},
		{"no steps of what fires", scripted{firing{path, 4, []int{3, 1, 0}}, lights(0, 2)}, 0, []int{3, 1, 0}, []int{0, 0, 0}},
	}
	for _, c := range cases {
		wantRow(t, c.what, impl.ScriptRun(c.s.net, c.s.kinds, c.s.state, c.s.script, c.steps), c.state)
		wantRow(t, c.what+", fired", impl.ScriptFired(c.s.net, c.s.kinds, c.s.state, c.s.script, c.steps), c.fired)
	}
}

func TestScriptRunsWrong(t *testing.T) {
	for what, w := range wrongPlays() {
		wantRow(t, what, impl.ScriptRun(w.net, w.kinds, w.state, w.script, w.steps), nil)
	}
}

// Promise 73.

func TestWithoutLightsFiringsAreCountedAsBefore(t *testing.T) {
	t.Parallel()
	steps := 0
	for f := range everyFiring() {
		steps = (steps + 7) % (impl.MaxRun + 1)
		fired := impl.ScriptFired(f.net, f.kinds, f.state, nil, steps)
		if want := impl.FiredRow(f.net, f.kinds, f.state, steps); !slices.Equal(fired, want) || len(fired) != len(f.net) {
			t.Fatalf("%v, %d steps: %v, not %v", f, steps, fired, want)
		}
	}
}

func TestWithOneStepMoreEachFiresNoLess(t *testing.T) {
	t.Parallel()
	steps := 0
	for s := range everyScripted() {
		steps = (steps + 7) % impl.MaxRun
		fired := impl.ScriptFired(s.net, s.kinds, s.state, s.script, steps)
		more := impl.ScriptFired(s.net, s.kinds, s.state, s.script, steps+1)
		for node, often := range fired {
			if more[node] != often && more[node] != often+1 {
				t.Fatalf("%v, %d steps: %v, and with one more %v", s, steps, fired, more)
			}
		}
	}
}

func TestScriptFiredWrong(t *testing.T) {
	for what, w := range wrongPlays() {
		wantRow(t, what, impl.ScriptFired(w.net, w.kinds, w.state, w.script, w.steps), nil)
	}
}

// Promise 74.

func TestAllPulseScripts(t *testing.T) {
	t.Parallel()
	for node := -2; node <= impl.MaxNodes+2; node++ {
		for every := -2; every <= impl.MaxRun+2; every++ {
			for many := -2; many <= impl.MaxLights+2; many++ {
				wantPulses(t, node, every, many)
			}
		}
	}
}

func wantPulses(t *testing.T, node, every, many int) {
	script := impl.PulseScript(node, every, many)
	if want := pulsesBy(node, every, many); !slices.Equal(script, want) {
		t.Fatalf("%d, each %d, %d times: %v, not %v", node, every, many, script, want)
	}
	for nodes := 1; nodes <= impl.MaxNodes; nodes++ {
		if impl.ScriptOk(nodes, script) != (node < nodes || len(script) == 0) {
			t.Fatalf("%d nodes, %d, each %d, %d times: %v", nodes, node, every, many, script)
		}
	}
}

// pulsesBy has the lights of a pulse script, time by time.
func pulsesBy(node, every, many int) []impl.Light {
	if node < 0 || node > 5 || every < 1 || every > 60 || many < 0 || many > 8 {
		return nil
	}
	var script []impl.Light
	for time := 0; len(script) < many; time += every {
		if time > 59 {
			return nil
		}
		script = append(script, impl.Light{Time: time, Node: node})
	}
	return script
}

func TestPulseScripts(t *testing.T) {
	cases := []struct {
		node, every, many int
		want              []impl.Light
	}{
		{1, 5, 3, lights(0, 1, 5, 1, 10, 1)},
		{0, 1, 0, nil},
		{5, 60, 0, nil},
		{0, 1, 1, lights(0, 0)},
		{5, 60, 1, lights(0, 5)},
		{2, 59, 2, lights(0, 2, 59, 2)},
		{2, 60, 2, nil},
		{3, 29, 3, lights(0, 3, 29, 3, 58, 3)},
		{3, 30, 3, nil},
		{0, 1, 8, lights(0, 0, 1, 0, 2, 0, 3, 0, 4, 0, 5, 0, 6, 0, 7, 0)},
		{4, 8, 8, lights(0, 4, 8, 4, 16, 4, 24, 4, 32, 4, 40, 4, 48, 4, 56, 4)},
		{4, 9, 8, nil},
		{4, 1, 9, nil},
		{6, 1, 1, nil},
		{-1, 1, 1, nil},
		{0, 0, 1, nil},
		{0, 0, 0, nil},
		{0, 61, 1, nil},
		{0, 1, -1, nil},
	}
	for _, c := range cases {
		if script := impl.PulseScript(c.node, c.every, c.many); !slices.Equal(script, c.want) {
			t.Fatalf("%d, each %d, %d times: %v, not %v", c.node, c.every, c.many, script, c.want)
		}
	}
}

func TestPulseScriptsWrong(t *testing.T) {
	wrong := []int{math.MinInt, math.MinInt + 1, -1 << 32, -1, 1 << 32, 1<<32 + 1, 1 << 62, math.MaxInt - 1, math.MaxInt}
	for _, number := range wrong {
		for _, other := range append(wrong, 0, 1, 2, 8, 60) {
			for _, third := range []int{0, 1, 2, 5, 8, other} {
				wantPulses(t, number, other, third)
				wantPulses(t, third, number, other)
				wantPulses(t, other, third, number)
			}
		}
	}
}

// pulsed is a net at rest of which a node is lit so often, each time so many steps later.
type pulsed struct {
	net                      []int
	kinds, node, every, many int
}

func (p pulsed) fired(steps int) []int {
	return impl.ScriptFired(p.net, p.kinds, make([]int, len(p.net)), impl.PulseScript(p.node, p.every, p.many), steps)
}

// slowPulses tells on all nets of one node to four all pulses that come no faster than the kinds, and drawn ones on each other net, as far as there are such scripts.
func slowPulses() iter.Seq[pulsed] {
	return func(yield func(pulsed) bool) {
		draw := drawer()
		for net := range everyNet() {
			if len(net) > 4 {
				kinds, node, every, many := draw(3)+3, draw(len(net)), draw(12), draw(impl.MaxLights+1)
				every += kinds
				if (many-1)*every < impl.MaxRun && !yield(pulsed{net, kinds, node, every, many}) {
					return
				}
				continue
			}
			if !slowPulsesOn(net, yield) {
				return
			}
		}
	}
}

func slowPulsesOn(net []int, yield func(pulsed) bool) bool {
	for node := range net {
		for kinds := impl.LeastKinds; kinds <= impl.MaxKinds; kinds++ {
			for every := kinds; every <= impl.MaxRun; every++ {
				for many := 0; many <= impl.MaxLights && (many-1)*every < impl.MaxRun; many++ {
					if !yield(pulsed{net, kinds, node, every, many}) {
						return false
					}
				}
			}
		}
	}
	return true
}

func TestSlowPulsesAllGoOut(t *testing.T) {
	t.Parallel()
	for p := range slowPulses() {
		row := impl.DistancesFrom(p.net, 1<<p.node)
		// A light comes only with the step behind it, so that even its own node needs that one.
		enough := (p.many-1)*p.every + max(slices.Max(row), 1)
		if enough > impl.MaxRun {
			continue
		}
		wantAllGoneOut(t, p, row, impl.MaxRun)
		if p.many > 0 {
			wantAllGoneOut(t, p, row, enough)
			wantOneStepTooFew(t, p, row, enough-1)
		}
	}
}

func wantAllGoneOut(t *testing.T, p pulsed, row []int, steps int) {
	fired := p.fired(steps)
	for node, way := range row {
		want := p.many
		if way < 0 {
			want = 0
		}
		if len(fired) != len(row) || fired[node] != want {
			t.Fatalf("%v, %d steps: %v, wrong for %d", p, steps, fired, node)
		}
	}
}

func wantOneStepTooFew(t *testing.T, p pulsed, row []int, steps int) {
	fired := p.fired(steps)
	farthest := max(slices.Max(row), 1)
	for node, way := range row {
		if max(way, 1) == farthest && way >= 0 && fired[node] != p.many-1 {
			t.Fatalf("%v, %d steps: %v, wrong for %d", p, steps, fired, node)
		}
	}
}

func TestPulsesOfAllSpeeds(t *testing.T) {
	t.Parallel()
	for p := range slowPulses() {
		// From those that come as fast as may be, all faster ones are tried, and ones that are a step slower.
		if p.every != p.kinds {
			continue
		}
		for every := 1; every <= p.kinds+1; every++ {
			p.every = every
			script := pulsesBy(p.node, p.every, p.many)
			s := scripted{firing{p.net, p.kinds, make([]int, len(p.net))}, script}
			states, fired := playBy(s, impl.MaxRun)
			wantPlayed(t, s, impl.MaxRun, states[impl.MaxRun], fired[impl.MaxRun])
			wantRow(t, fmt.Sprint(p), p.fired(impl.MaxRun), fired[impl.MaxRun])
		}
	}
}

func TestPulsesGoOut(t *testing.T) {
	one, path, ring, parts := []int{0}, impl.PathNet(3), impl.RingNet(6), []int{2, 1, 8, 4, 0}
	cases := []struct {
		what string
		p    pulsed
		want []int
	}{
		{"no pulses", pulsed{path, 3, 0, 3, 0}, []int{0, 0, 0}},
		{"one pulse", pulsed{path, 3, 0, 60, 1}, []int{1, 1, 1}},
		{"as many as kinds apart", pulsed{path, 3, 0, 3, 2}, []int{2, 2, 2}},
		{"a step sooner", pulsed{path, 3, 0, 2, 2}, []int{2, 1, 1}},
		{"each step", pulsed{path, 3, 0, 1, 3}, []int{2, 1, 1}},
		{"most pulses, as many as kinds apart", pulsed{ring, 5, 2, 5, 8}, []int{8, 8, 8, 8, 8, 8}},
		{"most pulses, a step sooner", pulsed{ring, 5, 2, 4, 8}, []int{4, 4, 8, 4, 4, 4}},
		{"most pulses, a step later", pulsed{ring, 5, 2, 6, 8}, []int{8, 8, 8, 8, 8, 8}},
		{"most pulses as slow as may be", pulsed{path, 3, 1, 8, 8}, []int{8, 8, 8}},
		{"one node, as fast as it recovers", pulsed{one, 4, 0, 3, 8}, []int{8}},
		{"one node, a step faster", pulsed{one, 4, 0, 2, 8}, []int{4}},
		{"one node, each step", pulsed{one, 4, 0, 1, 8}, []int{3}},
		{"the last pulse at the last time", pulsed{path, 4, 0, 59, 2}, []int{2, 2, 1}},
		{"one part of several", pulsed{parts, 3, 3, 3, 4}, []int{0, 0, 4, 4, 0}},
		{"a node without neighbours", pulsed{parts, 3, 4, 3, 4}, []int{0, 0, 0, 0, 4}},
		{"a node that the net has not", pulsed{path, 3, 3, 3, 2}, nil},
		{"a time beyond the last one", pulsed{path, 3, 0, 60, 2}, []int{0, 0, 0}},
	}
	for _, c := range cases {
		wantRow(t, c.what, c.p.fired(impl.MaxRun), c.want)
	}
}

// Promise 75.

func TestLightsAtFirstAreAWave(t *testing.T) {
	t.Parallel()
	for w, distances := range everyWave() {
		var script []impl.Light
		for node := range w.net {
			if inSet(w.set, node) {
				script = append(script, impl.Light{Node: node})
			}
		}
		fired := impl.ScriptFired(w.net, w.kinds, make([]int, len(w.net)), script, 12)
		row := impl.DistancesFrom(w.net, w.set)
		for node, way := range distances {
			if len(fired) != len(row) || row[node] != way || (fired[node] == 1) != (way >= 0) || (fired[node] == 0) != (way < 0) {
				t.Fatalf("%v: %v, but %v", w, fired, distances)
			}
		}
	}
}

// The general rules: arguments are never written to, and results are new.

func TestScriptsAreNotWrittenTo(t *testing.T) {
	path, kinds := []int{2, 5, 2}, []int{0, 0, 2}
	net, state := withSpare(path), withSpare(kinds)
	events, spare := lights(0, 0, 1, 2, 5, 1), impl.Light{Time: 77, Node: 77}
	script := append(slices.Clone(events), spare, spare)[:len(events)]
	for range 2 {
		none, run := impl.ScriptRun(net, 3, state, script, 0), impl.ScriptRun(net, 3, state, script, 2)
		unfired, fired := impl.ScriptFired(net, 3, state, script, 0), impl.ScriptFired(net, 3, state, script, 2)
		wantRow(t, "no steps", none, kinds)
		wantRow(t, "a run", run, []int{0, 2, 2})
		wantRow(t, "not fired", unfired, []int{0, 0, 0})
		wantRow(t, "fired", fired, []int{1, 1, 1})
		if text := impl.ScriptText(3, script); text != "0:0,1:2,5:1" || !impl.ScriptOk(3, script) {
			t.Fatal(text)
		}
		for _, row := range [][]int{none, run, unfired, fired} {
			overwrite(row)
		}
		wantUnwritten(t, "the net", net, path)
		wantUnwritten(t, "the state", state, kinds)
		if !slices.Equal(script, events) || !slices.Equal(script[:cap(script)][len(events):][:2], []impl.Light{spare, spare}) {
			t.Fatalf("the script is written to: %v", script[:cap(script)])
		}
	}
}

func TestScriptsAreNew(t *testing.T) {
	for range 2 {
		read, ok := impl.ReadScript(3, "0:0,5:0")
		pulses, want := impl.PulseScript(0, 5, 2), lights(0, 0, 5, 0)
		if !ok || !slices.Equal(read, want) || !slices.Equal(pulses, want) {
			t.Fatalf("%v, %v, %v", read, ok, pulses)
		}
		for _, script := range [][]impl.Light{read, pulses} {
			script = script[:cap(script)]
			for place := range script {
				script[place] = impl.Light{Time: -9, Node: -9}
			}
		}
	}
}

// A state that stays is not given back itself.
func TestStatesThatStayByScriptsAreNew(t *testing.T) {
	rest := withSpare([]int{0, 0, 0})
	for range 2 {
		for _, row := range [][]int{impl.ScriptRun(impl.PathNet(3), 3, rest, nil, 0), impl.ScriptRun(impl.PathNet(3), 3, rest, nil, 60), impl.ScriptRun(impl.PathNet(3), 3, rest, lights(59, 0), 59)} {
			wantRow(t, "at rest", row, []int{0, 0, 0})
			overwrite(row)
			wantUnwritten(t, "the state", rest, []int{0, 0, 0})
		}
	}
}
