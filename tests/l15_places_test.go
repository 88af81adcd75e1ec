package tests

import (
	"fmt"
	"iter"
	"math"
	"regexp"
	"slices"
	"strings"
	"testing"

	"loop.example/firingnets/impl"
)

// placed has the place at which something fires.
func placed(f firing) impl.Place {
	return impl.Place{Net: f.net, Kinds: f.kinds, State: f.state}
}

// firingAt has what fires at a place.
func firingAt(p impl.Place) firing {
	return firing{p.Net, p.Kinds, p.State}
}

// everyPlace tells all places of one node to four, and a few on each net of more nodes.
func everyPlace() iter.Seq[impl.Place] {
	return func(yield func(impl.Place) bool) {
		for f := range everyFiring() {
			if !yield(placed(f)) {
				return
			}
		}
	}
}

// fewPlaces tells each 37th one.
func fewPlaces() iter.Seq[impl.Place] {
	return func(yield func(impl.Place) bool) {
		for f := range fewFirings() {
			if !yield(placed(f)) {
				return
			}
		}
	}
}

// smallPlaces tells all places of one node and of two.
func smallPlaces() iter.Seq[impl.Place] {
	return func(yield func(impl.Place) bool) {
		for p := range everyPlace() {
			if len(p.Net) > 2 || !yield(p) {
				return
			}
		}
	}
}

// edgePlaces are of one node and of most nodes, without neighbours and with all, at rest and not, of the fewest kinds and of the most.
func edgePlaces() []impl.Place {
	var places []impl.Place
	for _, nodes := range []int{1, 2, impl.MaxNodes} {
		for _, net := range [][]int{make([]int, nodes), fullNet(nodes)} {
			for _, kinds := range []int{impl.LeastKinds, impl.MaxKinds} {
				for kind := range kinds {
					places = append(places, impl.Place{Net: net, Kinds: kinds, State: slices.Repeat([]int{kind}, nodes)})
				}
			}
		}
	}
	return places
}

func drawnPlace(draw func(int) int) impl.Place {
	nodes, kinds := draw(impl.MaxNodes)+1, draw(3)+impl.LeastKinds
	state := make([]int, nodes)
	for node := range state {
		state[node] = draw(kinds)
	}
	return impl.Place{Net: netOfPairs(nodes, draw(1<<(nodes*(nodes-1)/2))), Kinds: kinds, State: state}
}

func clonedPlace(p impl.Place) impl.Place {
	return impl.Place{Net: slices.Clone(p.Net), Kinds: p.Kinds, State: slices.Clone(p.State)}
}

func samePlaces(a, b impl.Place) bool {
	return slices.Equal(a.Net, b.Net) && a.Kinds == b.Kinds && slices.Equal(a.State, b.State)
}

func wantPlace(t *testing.T, what string, got, want impl.Place) {
	t.Helper()
	if !samePlaces(got, want) {
		t.Fatalf("%s: %v, not %v", what, got, want)
	}
}

// placeTextBy has the text of a place, pair by pair and node by node.
func placeTextBy(p impl.Place) string {
	pairs, kinds := "", ""
	for a := range p.Net {
		for b := range p.Net {
			if a < b && inSet(p.Net[a], b) {
				pairs += string(rune('0'+a)) + string(rune('0'+b)) + ","
			}
		}
		kinds += string(rune('0' + p.State[a]))
	}
	if pairs == "" {
		pairs = ".,"
	}
	return fmt.Sprintf("%d %s %d %s", len(p.Net), strings.TrimSuffix(pairs, ","), p.Kinds, kinds)
}

var somePlace = regexp.MustCompile(`^([1-6]) (\.|[0-5][0-5](?:,[0-5][0-5])*) ([345]) ([0-4]{1,6})$`)

// readPlaceBy reads the text of a place by another grammar than the program's: pairs are texts that rise.
func readPlaceBy(text string) (impl.Place, bool) {
	words := somePlace.FindStringSubmatch(text)
	if words == nil {
		return impl.Place{}, false
	}
	nodes, kinds := int(words[1][0]-'0'), int(words[3][0]-'0')
	place := impl.Place{Net: make([]int, nodes), Kinds: kinds}
	last := ""
	for _, pair := range strings.FieldsFunc(words[2], func(sign rune) bool { return sign == ',' || sign == '.' }) {
		a, b := int(pair[0]-'0'), int(pair[1]-'0')
		if a >= b || b >= nodes || pair <= last {
			return impl.Place{}, false
		}
		place.Net[a] += 1 << b
		place.Net[b] += 1 << a
		last = pair
	}
	for _, kind := range words[4] {
		place.State = append(place.State, int(kind-'0'))
	}
	if len(place.State) != nodes || slices.Max(place.State) >= kinds {
		return impl.Place{}, false
	}
	return place, true
}

// wrongPlaces are those of which the parts are none, or do not fit.
func wrongPlaces() map[string]impl.Place {
	wrong := map[string]impl.Place{"nothing": {}}
	for what, f := range wrongFirings() {
		wrong[what] = placed(f)
	}
	for net := range everyWidth() {
		for _, kinds := range wrongKinds() {
			wrong[fmt.Sprint(len(net), " nodes of kinds ", kinds)] = impl.Place{Net: net, Kinds: kinds, State: make([]int, len(net))}
		}
		for kinds := impl.LeastKinds; kinds <= impl.MaxKinds; kinds++ {
			for node := range net {
				for _, kind := range []int{kinds, kinds + 1, -1, 1 << 32, math.MinInt, math.MaxInt} {
					what := fmt.Sprintf("%d nodes of kinds %d, the kind %d at %d", len(net), kinds, kind, node)
					wrong[what] = impl.Place{Net: net, Kinds: kinds, State: changedAt(make([]int, len(net)), node, kind)}
				}
			}
		}
	}
	return wrong
}

func wantNoPlace(t *testing.T, what string, place impl.Place, ok bool) {
	t.Helper()
	if ok || len(place.Net) != 0 || place.Kinds != 0 || len(place.State) != 0 {
		t.Fatalf("%s: %v, %v", what, place, ok)
	}
}

// Promise 102.

func TestAllAtRestIsAPlace(t *testing.T) {
	t.Parallel()
	for p := range everyPlace() {
		rest := impl.Place{Net: p.Net, Kinds: p.Kinds, State: make([]int, len(p.Net))}
		if !impl.PlaceOk(p) || !impl.PlaceOk(rest) {
			t.Fatalf("%v, or all at rest there, is no place", p)
		}
		p.Kinds++
		if impl.PlaceOk(p) != (p.Kinds <= 5) {
			t.Fatalf("%v is a place: %v", p, impl.PlaceOk(p))
		}
	}
}

func TestEdgePlaces(t *testing.T) {
	for _, p := range edgePlaces() {
		if !impl.PlaceOk(p) {
			t.Fatalf("%v is no place", p)
		}
	}
}

func TestPlacesWrong(t *testing.T) {
	for what, p := range wrongPlaces() {
		if text := impl.PlaceText(p); impl.PlaceOk(p) || text != "" {
			t.Fatalf("%s: %v is a place, %q", what, p, text)
		}
	}
}

// Promise 87.

func TestTextsOfPlacesAreRead(t *testing.T) {
	t.Parallel()
	for p := range everyPlace() {
		wantPlaceReadAgain(t, p)
	}
	for _, p := range edgePlaces() {
		wantPlaceReadAgain(t, p)
	}
}

func wantPlaceReadAgain(t *testing.T, p impl.Place) {
	text := impl.PlaceText(p)
	read, ok := impl.ReadPlace(text)
	if text != placeTextBy(p) || !ok || !samePlaces(read, p) {
		t.Fatalf("%v: %q, read as %v, %v", p, text, read, ok)
	}
}

func TestPlaceTexts(t *testing.T) {
	cases := []struct {
		p    impl.Place
		want string
	}{
		{impl.Place{Net: []int{0}, Kinds: 3, State: []int{0}}, "1 . 3 0"},
		{impl.Place{Net: []int{0}, Kinds: 5, State: []int{4}}, "1 . 5 4"},
		{impl.Place{Net: []int{0, 0}, Kinds: 4, State: []int{3, 0}}, "2 . 4 30"},
		{impl.Place{Net: []int{2, 1}, Kinds: 3, State: []int{1, 2}}, "2 01 3 12"},
		{impl.Place{Net: []int{4, 4, 3}, Kinds: 3, State: []int{0, 1, 2}}, "3 02,12 3 012"},
		{impl.Place{Net: []int{10, 5, 10, 5}, Kinds: 3, State: []int{0, 1, 2, 2}}, "4 01,03,12,23 3 0122"},
		{impl.Place{Net: []int{0, 0, 0, 0, 0, 0}, Kinds: 5, State: []int{0, 1, 2, 3, 4, 0}}, "6 . 5 012340"},
		{impl.Place{Net: []int{32, 0, 0, 0, 0, 1}, Kinds: 3, State: []int{0, 0, 0, 0, 0, 1}}, "6 05 3 000001"},
		{impl.Place{Net: []int{62, 61, 59, 55, 47, 31}, Kinds: 4, State: []int{3, 2, 1, 0, 3, 3}}, "6 01,02,03,04,05,12,13,14,15,23,24,25,34,35,45 4 321033"},
	}
	for _, c := range cases {
		if text := impl.PlaceText(c.p); text != c.want {
			t.Fatalf("%v: %q, not %q", c.p, text, c.want)
		}
		read, ok := impl.ReadPlace(c.want)
		wantPlace(t, c.want, read, c.p)
		if !ok {
			t.Fatalf("%q is not read", c.want)
		}
	}
}

// Promise 88.

// wantPlaceRead holds what is read from a text against readPlaceBy, and against its text again.
func wantPlaceRead(t *testing.T, text string) {
	place, ok := impl.ReadPlace(text)
	want, wantOk := readPlaceBy(text)
	if ok != wantOk || !samePlaces(place, want) {
		t.Fatalf("%q: %v, %v, not %v, %v", text, place, ok, want, wantOk)
	}
	if ok && impl.PlaceText(place) != text {
		t.Fatalf("%q: %v has another text", text, place)
	}
}

func wantPlaceNotRead(t *testing.T, text string) {
	t.Helper()
	place, ok := impl.ReadPlace(text)
	wantNoPlace(t, fmt.Sprintf("%q", text), place, ok)
}

func TestReadPlacesAreCanonical(t *testing.T) {
	t.Parallel()
	for p := range fewPlaces() {
		text := placeTextBy(p)
		wantPlaceRead(t, text)
		for _, other := range []string{text + " ", " " + text, "0" + text, text + "0", text[1:], text[:len(text)-1], text + "\n", strings.Replace(text, " ", "  ", 1), text + " " + text} {
			wantPlaceRead(t, other)
		}
		for _, other := range []string{text + " ", " " + text, "0" + text, text + "0", text[1:], text[:len(text)-1]} {
			wantPlaceNotRead(t, other)
		}
	}
}

// Each text is tried with any byte in place of each one, and ahead of it, and without it, and cut at it.
func TestTextsOfPlacesWithAnotherByte(t *testing.T) {
	t.Parallel()
	for _, text := range []string{"1 . 3 0", "1 . 5 4", "2 . 4 30", "2 01 3 12", "3 02,12 3 012", "4 01,03,12,23 3 0122", "6 . 5 012340", "6 05,34 3 000001", "6 01,02,03,04,05,12,13,14,15,23,24,25,34,35,45 4 321033"} {
		for place := range len(text) {
			wantPlaceRead(t, text[:place])
			wantPlaceRead(t, text[:place]+text[place+1:])
			for number := range 256 {
				sign := string([]byte{byte(number)})
				wantPlaceRead(t, text[:place]+sign+text[place:])
				wantPlaceRead(t, text[:place]+sign+text[place+1:])
				wantPlaceNotRead(t, text+sign)
			}
		}
	}
}

// Each of the four words is tried with all short texts of some signs beside the others.
func TestTextsOfPlacesWithOtherWords(t *testing.T) {
	t.Parallel()
	for word := range textsOf("0123567 .,-+", 3) {
		wantPlaceRead(t, word+" . 3 0")
		wantPlaceRead(t, word+" 01 3 00")
		wantPlaceRead(t, word+" 01,02,12 5 040")
		wantPlaceRead(t, "1 . "+word+" 0")
		wantPlaceRead(t, "2 01 "+word+" 12")
		wantPlaceRead(t, "2 01 "+word+" 40")
	}
	for word := range textsOf("0123,. ", 6) {
		wantPlaceRead(t, "3 "+word+" 3 012")
	}
	for word := range textsOf("01235 ", 5) {
		wantPlaceRead(t, "3 01 3 "+word)
		wantPlaceRead(t, "4 01,23 5 "+word)
	}
}

// All rows of a few pairs are tried, of which just those that rise are read.
func TestPairsInAllOrders(t *testing.T) {
	t.Parallel()
	pairs := []string{"01", "02", "12", "10", "21", "00", "11", "03", "13", "1", "012", "", "."}
	for size := range 5 {
		row, read := make([]int, size), 0
		everyRow(row, 0, 0, len(pairs)-1, func() {
			var words []string
			for _, number := range row {
				words = append(words, pairs[number])
			}
			text := "3 " + strings.Join(words, ",") + " 4 031"
			wantPlaceRead(t, text)
			if _, ok := impl.ReadPlace(text); ok {
				read++
			}
		})
		// Of one pair there are three, and the dot for none.
		wantNumber(t, fmt.Sprint(size, " pairs"), read, []int{0, 4, 3, 1, 0}[size])
	}
}

// All texts of places of two nodes at most are read, each as another place.
func TestSmallPlacesHaveTheirOwnTexts(t *testing.T) {
	met := map[string]bool{}
	count := 0
	for p := range smallPlaces() {
		met[impl.PlaceText(p)] = true
		count++
	}
	wantNumber(t, "texts", len(met), count)
	wantNumber(t, "places", count, 3+4+5+2*(9+16+25))
	for text := range met {
		wantPlaceRead(t, text)
		if _, ok := impl.ReadPlace(text); !ok {
			t.Fatalf("%q is not read", text)
		}
	}
}

func TestArbitraryBytesAreNoPlaces(t *testing.T) {
	t.Parallel()
	draw := drawer()
	for range 100000 {
		text := make([]byte, draw(30))
		for place := range text {
			if text[place] = byte(draw(256)); draw(4) > 0 {
				text[place] = "0123456 .,"[draw(10)]
			}
		}
		wantPlaceRead(t, string(text))
	}
}

func TestReadPlacesWrong(t *testing.T) {
	texts := []string{
		"", " ", "  ", "   ", "    ", ".", "0", "1", "1 .", "1 . 3", "1 . 3 ", "1 .  0", "1  3 0", " . 3 0", "1 . 3 0 ", "1 . 3 0 0", "1 . 3 0\n", "\n1 . 3 0",
		"0 . 3 ", "0 . 3 .", "0 . 3 0", "7 . 3 0000000", "7 01 3 0000000", "8 . 3 00000000", "10 . 3 0000000000", "-1 . 3 0", "+1 . 3 0", "01 . 3 0", "1.0 . 3 0",
		"1 . 2 0", "1 . 6 0", "1 . 0 0", "1 . 1 0", "1 . 03 0", "1 . +3 0", "1 . -3 0", "1 . 33 0", "1 . 3 3", "1 . 4 4", "1 . 5 5", "1 . 5 9", "1 . 3 -1", "1 . 3 +1", "1 . 3 00", "1 . 3 01", "1 . 3 .",
		"1 00 3 0", "1 01 3 0", "1 0 3 0", "1 .. 3 0", "1 , 3 0", "1 .,. 3 0", "2 .,01 3 00", "2 01,. 3 00", "2 01. 3 00", "2 .01 3 00",
		"2 10 3 00", "2 00 3 00", "2 11 3 00", "2 02 3 00", "2 12 3 00", "2 0 3 00", "2 1 3 00", "2 001 3 00", "2 0,1 3 00", "2 0-1 3 00", "2 01,01 3 00", "2 01,10 3 00", "2 01, 3 00", "2 ,01 3 00", "2 01,,01 3 00",
		"3 12,01 3 000", "3 02,01 3 000", "3 12,02 3 000", "3 01 12 3 000", "3 01;12 3 000", "3 0112 3 000", "3 01,12,12 3 000", "3 01,12,02 3 000", "3 01,03 3 000",
		"2 01 3 0", "2 01 3 000", "2 01 3 0 0", "2 01 3 0,0", "2 01 3 03", "2 01 3 30", "2 01 3 0a", "2 01 3 \x00\x00", "2 01 3 /0", "2 01 3 :0", "2\t01 3 00", "2 01 3 00\x00", "2 01 3 00\xff", "２ 01 3 00", "2 01 3 ٠٠",
		"6 06 3 000000", "6 66 3 000000", "6 56 3 000000", "6 54 3 000000", "6 01,02,03,04,05,12,13,14,15,23,24,25,34,35,45,55 3 000000", "6 01,02,03,04,05,12,13,14,15,23,24,25,34,35,45,01 3 000000",
		"9223372036854775807 . 3 0", "9223372036854775808 . 3 0", "4294967297 . 3 0", "1 . 4294967299 0", "1 . 18446744073709551619 0", "257 . 3 0", "1 . 259 0",
		strings.Repeat("1 . 3 0 ", 20000), strings.Repeat(" ", 100000), strings.Repeat("0", 100000) + "1 . 3 0", "2 01" + strings.Repeat(",01", 100000) + " 3 00", "1 . 3 " + strings.Repeat("0", 100000), "1 " + strings.Repeat(".", 100000) + " 3 0", "1 . " + strings.Repeat("3", 100000) + " 0",
	}
	for _, text := range texts {
		wantPlaceNotRead(t, text)
	}
}

// The general rules: arguments are never written to, and results are new.

func TestReadPlacesAreNew(t *testing.T) {
	for _, text := range []string{"4 01,03,12,23 3 0122", "1 . 5 4", "6 . 3 000001"} {
		first, _ := impl.ReadPlace(text)
		second, _ := impl.ReadPlace(text)
		want := clonedPlace(first)
		overwrite(first.Net)
		wantRow(t, "the state beside the net", first.State, want.State)
		overwrite(first.State)
		wantPlace(t, "read again", second, want)
	}
}

func TestPlacesAreUnwritten(t *testing.T) {
	for _, p := range []impl.Place{{Net: []int{10, 5, 10, 5}, Kinds: 3, State: []int{0, 1, 2, 2}}, {Net: []int{0}, Kinds: 5, State: []int{4}}} {
		given := impl.Place{Net: withSpare(p.Net), Kinds: p.Kinds, State: withSpare(p.State)}
		impl.PlaceOk(given)
		impl.PlaceText(given)
		wantUnwritten(t, "the net", given.Net, p.Net)
		wantUnwritten(t, "the state", given.State, p.State)
	}
}
