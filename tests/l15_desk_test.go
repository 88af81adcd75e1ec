package tests

import (
	"fmt"
	"iter"
	"math"
	"regexp"
	"slices"
	"strconv"
	"strings"
	"testing"

	"loop.example/firingnets/impl"
)

// ringPlace is the place of the document's examples.
func ringPlace() impl.Place {
	return impl.Place{Net: []int{10, 5, 10, 5}, Kinds: 3, State: []int{0, 1, 2, 2}}
}

func clonedDesk(d impl.Desk) impl.Desk {
	clone := impl.Desk{Now: clonedPlace(d.Now)}
	for _, p := range d.Past {
		clone.Past = append(clone.Past, clonedPlace(p))
	}
	return clone
}

func sameDesks(a, b impl.Desk) bool {
	return samePlaces(a.Now, b.Now) && slices.EqualFunc(a.Past, b.Past, samePlaces)
}

func wantDesk(t *testing.T, what string, got, want impl.Desk) {
	t.Helper()
	if !sameDesks(got, want) {
		t.Fatalf("%s: %v, not %v", what, got, want)
	}
}

func wantNoDesk(t *testing.T, what string, d impl.Desk) {
	t.Helper()
	if len(d.Now.Net) != 0 || d.Now.Kinds != 0 || len(d.Now.State) != 0 || len(d.Past) != 0 {
		t.Fatalf("%s: %v", what, d)
	}
}

// drawnDesk has as many places of before as may be, or none, more often than other numbers of them.
func drawnDesk(draw func(int) int) impl.Desk {
	d := impl.Desk{Now: drawnPlace(draw)}
	for range []int{0, 8, 8, draw(9), draw(9)}[draw(5)] {
		d.Past = append(d.Past, drawnPlace(draw))
	}
	return d
}

// drawnDesks tells the same so many drawn desks each time, and what draws them.
func drawnDesks(often int) iter.Seq2[impl.Desk, func(int) int] {
	return func(yield func(impl.Desk, func(int) int) bool) {
		draw := drawer()
		for range often {
			if !yield(drawnDesk(draw), draw) {
				return
			}
		}
	}
}

// wrongDesks have a place that is none, or too many of before.
func wrongDesks() map[string]impl.Desk {
	good := ringPlace()
	wrong := map[string]impl.Desk{
		"nothing":            {},
		"no place of now":    {Past: []impl.Place{good}},
		"nine of before":     {Now: good, Past: slices.Repeat([]impl.Place{good}, 9)},
		"very many places":   {Now: good, Past: slices.Repeat([]impl.Place{good}, 1000)},
		"nine, one is wrong": {Now: good, Past: append(slices.Repeat([]impl.Place{good}, 8), impl.Place{})},
	}
	for what, p := range wrongPlaces() {
		wrong[what] = impl.Desk{Now: p}
		wrong[what+", with one of before"] = impl.Desk{Now: p, Past: []impl.Place{good}}
		wrong[what+", before"] = impl.Desk{Now: good, Past: []impl.Place{p}}
		wrong[what+", first of eight"] = impl.Desk{Now: good, Past: append([]impl.Place{p}, slices.Repeat([]impl.Place{good}, 7)...)}
		wrong[what+", last of eight"] = impl.Desk{Now: good, Past: append(slices.Repeat([]impl.Place{good}, 7), p)}
	}
	return wrong
}

// everyDeed tells deeds of each kind, with numbers of nodes and kinds, numbers next to them, and others.
func everyDeed() iter.Seq[impl.Deed] {
	numbers := []int{0, 1, 2, 3, 4, 5, 6, 7, -1, -2, 9, 10, 63, 64, 65, 99, 100, 1 << 32, 1<<32 + 1, math.MinInt, math.MaxInt}
	return func(yield func(impl.Deed) bool) {
		for _, kind := range []int{0, 1, 2, 3, 4, 5, 6, -1, -2, 100, 1 << 32, 1<<32 + 2, math.MinInt, math.MaxInt} {
			for _, a := range numbers {
				for _, b := range numbers {
					if !yield(impl.Deed{Kind: kind, A: a, B: b}) {
						return
					}
				}
			}
		}
	}
}

// drawnDeed has a deed with a text, that mostly can be done.
func drawnDeed(draw func(int) int) impl.Deed {
	switch draw(8) {
	case 0, 1, 2:
		return impl.Deed{Kind: impl.DkJoin, A: draw(7), B: draw(7)}
	case 3:
		return impl.Deed{Kind: impl.DkLight, A: draw(7)}
	case 4, 5:
		return impl.Deed{Kind: impl.DkStep}
	case 6:
		return impl.Deed{Kind: impl.DkKinds, A: draw(5) + 2}
	}
	return impl.Deed{Kind: impl.DkBack}
}

func drawnDeeds(draw func(int) int, many int) []impl.Deed {
	var list []impl.Deed
	for range many {
		list = append(list, drawnDeed(draw))
	}
	return list
}

// wrongDeeds are of other kinds, or have numbers that are not named: they have no texts, and are never done.
func wrongDeeds() []impl.Deed {
	var wrong []impl.Deed
	for _, kind := range []int{-1, -2, 5, 6, 100, 1 << 32, math.MinInt, math.MaxInt} {
		wrong = append(wrong, impl.Deed{Kind: kind}, impl.Deed{Kind: kind, A: 1}, impl.Deed{Kind: kind, A: 1, B: 2})
	}
	for _, number := range []int{1, 2, 3, 99, 100, -1, 1 << 32, math.MinInt, math.MaxInt} {
		wrong = append(wrong,
			impl.Deed{Kind: impl.DkLight, B: number}, impl.Deed{Kind: impl.DkLight, A: 1, B: number},
			impl.Deed{Kind: impl.DkKinds, A: 4, B: number}, impl.Deed{Kind: impl.DkKinds, A: 5, B: number},
			impl.Deed{Kind: impl.DkStep, A: number}, impl.Deed{Kind: impl.DkStep, B: number}, impl.Deed{Kind: impl.DkStep, A: number, B: number},
			impl.Deed{Kind: impl.DkBack, A: number}, impl.Deed{Kind: impl.DkBack, B: number}, impl.Deed{Kind: impl.DkBack, A: number, B: number},
		)
	}
	for _, number := range []int{-1, -2, 100, 101, 1 << 32, 1<<32 + 1, math.MinInt, math.MaxInt} {
		wrong = append(wrong,
			impl.Deed{Kind: impl.DkJoin, A: number, B: 1}, impl.Deed{Kind: impl.DkJoin, A: 1, B: number}, impl.Deed{Kind: impl.DkJoin, A: number, B: number},
			impl.Deed{Kind: impl.DkLight, A: number}, impl.Deed{Kind: impl.DkKinds, A: number},
		)
	}
	return wrong
}

// placeAfterBy has the place after a deed, for the deeds that can be done there, told one by one.
func placeAfterBy(p impl.Place, a impl.Deed) (impl.Place, bool) {
	after := clonedPlace(p)
	isNode := func(node int) bool { return node >= 0 && node < len(p.Net) }
	switch {
	case a.Kind == 0 && isNode(a.A) && isNode(a.B) && a.A != a.B:
		by := 1
		if inSet(p.Net[a.A], a.B) {
			by = -1
		}
		after.Net[a.A] += by << a.B
		after.Net[a.B] += by << a.A
	case a.Kind == 1 && isNode(a.A) && a.B == 0 && p.State[a.A] == 0:
		after.State[a.A] = 1
	case a.Kind == 2 && a.A == 0 && a.B == 0 && slices.Max(p.State) > 0:
		after.State = stepBy(firingAt(p))
	case a.Kind == 3 && a.A >= 3 && a.A <= 5 && a.B == 0 && a.A != p.Kinds && slices.Max(p.State) < a.A:
		after.Kinds = a.A
	default:
		return p, false
	}
	return after, true
}

// deskDoBy has the desk after a deed: places of before are a row, to which one is put behind, or from which one is taken.
func deskDoBy(d impl.Desk, a impl.Deed) (impl.Desk, bool) {
	after := clonedDesk(d)
	if a == (impl.Deed{Kind: 4}) && len(d.Past) > 0 {
		after.Now = after.Past[len(d.Past)-1]
		after.Past = after.Past[:len(d.Past)-1]
		return after, true
	}
	now, done := placeAfterBy(d.Now, a)
	if !done {
		return after, false
	}
	after.Past = append(after.Past, after.Now)
	if len(after.Past) == 9 {
		after.Past = after.Past[1:]
	}
	after.Now = now
	return after, true
}

func deskRunBy(d impl.Desk, list []impl.Deed) (impl.Desk, int) {
	count := 0
	for _, a := range list {
		if after, done := deskDoBy(d, a); done {
			d = after
			count++
		}
	}
	return d, count
}

// wantDone holds a deed against deskDoBy, and has the desk after it, and whether it was done.
func wantDone(t *testing.T, d impl.Desk, a impl.Deed) (impl.Desk, bool) {
	t.Helper()
	after, done := impl.DeskDo(d, a)
	want, wantDone := deskDoBy(d, a)
	if done != wantDone || !sameDesks(after, want) {
		t.Fatalf("%v after %v: %v, %v, not %v, %v", d, a, after, done, want, wantDone)
	}
	return after, done
}

func TestNumbersOfDesks(t *testing.T) {
	wantRow(t, "kinds of deeds", []int{impl.DkJoin, impl.DkLight, impl.DkStep, impl.DkKinds, impl.DkBack}, []int{0, 1, 2, 3, 4})
	wantRow(t, "MaxPast, MaxLines and MaxLog", []int{impl.MaxPast, impl.MaxLines, impl.MaxLog}, []int{8, 40, 1000})
}

// Promise 105.

func TestDesksCanForget(t *testing.T) {
	t.Parallel()
	for d := range drawnDesks(3000) {
		for many := range len(d.Past) + 1 {
			if !impl.DeskOk(impl.Desk{Now: d.Now, Past: d.Past[:many]}) {
				t.Fatalf("%v with %d of before is no desk", d, many)
			}
		}
	}
	for p := range everyPlace() {
		if !impl.DeskOk(impl.Desk{Now: p}) || !impl.DeskOk(impl.Desk{Now: p, Past: []impl.Place{}}) {
			t.Fatalf("%v is no desk", p)
		}
	}
}

func TestDesksOfMostPlacesOfBefore(t *testing.T) {
	for _, p := range edgePlaces() {
		for many := range 12 {
			if impl.DeskOk(impl.Desk{Now: ringPlace(), Past: slices.Repeat([]impl.Place{p}, many)}) != (many <= 8) {
				t.Fatalf("%d places of before", many)
			}
		}
	}
}

func TestDesksWrong(t *testing.T) {
	t.Parallel()
	for what, d := range wrongDesks() {
		if impl.DeskOk(d) {
			t.Fatalf("%s: %v is a desk", what, d)
		}
		for kind := range 6 {
			for _, a := range []impl.Deed{{Kind: kind}, {Kind: kind, A: 0, B: 1}, {Kind: kind, A: 4}} {
				after, done := impl.DeskDo(d, a)
				wantNoDesk(t, what, after)
				run, count := impl.DeskRun(d, []impl.Deed{a})
				wantNoDesk(t, what, run)
				wantNumber(t, what, count, 0)
				if done {
					t.Fatalf("%s: %v is done", what, a)
				}
			}
		}
		for _, line := range append(questionLines(), "", "step", "back", "join 0 1", "light 0", "kinds 4", "x") {
			after, answer := impl.DeskLine(d, line)
			wantNoDesk(t, what, after)
			said, answers := impl.DeskSay(d, []string{line})
			wantNoDesk(t, what, said)
			if answer != "" || len(answers) != 0 {
				t.Fatalf("%s: %q is answered by %q, %q", what, line, answer, answers)
			}
		}
		run, count := impl.DeskRun(d, nil)
		wantNoDesk(t, what, run)
		wantNumber(t, what, count, 0)
		said, answers := impl.DeskSay(d, nil)
		wantNoDesk(t, what, said)
		wantNumber(t, what, len(answers), 0)
	}
}

// Promise 106.

func TestNewDesksHaveOnePlace(t *testing.T) {
	t.Parallel()
	for p := range everyPlace() {
		d, ok := impl.DeskNew(p)
		if !ok || !impl.DeskOk(d) || !samePlaces(d.Now, p) || len(d.Past) != 0 {
			t.Fatalf("%v: %v, %v", p, d, ok)
		}
	}
	for _, p := range edgePlaces() {
		d, ok := impl.DeskNew(p)
		if !ok || !samePlaces(d.Now, p) || len(d.Past) != 0 {
			t.Fatalf("%v: %v, %v", p, d, ok)
		}
	}
}

func TestNewDesksWrong(t *testing.T) {
	for what, p := range wrongPlaces() {
		d, ok := impl.DeskNew(p)
		wantNoDesk(t, what, d)
		if ok {
			t.Fatalf("%s: %v is a place", what, p)
		}
	}
}

// Promise 103.

func TestWhatWasDoneCanBeUndone(t *testing.T) {
	t.Parallel()
	back := impl.Deed{Kind: impl.DkBack}
	for d, draw := range drawnDesks(4000) {
		for _, a := range append(drawnDeeds(draw, 12), back) {
			after, done := wantDone(t, d, a)
			if !impl.DeskOk(after) {
				t.Fatalf("%v after %v is no desk: %v", d, a, after)
			}
			if !done {
				wantDesk(t, fmt.Sprint("not done: ", a), after, d)
				continue
			}
			if a == back {
				continue
			}
			undone, ok := impl.DeskDo(after, back)
			want := clonedDesk(d)
			if len(d.Past) == 8 {
				want.Past = want.Past[1:]
			}
			wantDesk(t, fmt.Sprint("undone: ", a), undone, want)
			if !ok {
				t.Fatalf("%v after %v cannot be undone", d, a)
			}
		}
	}
}

func TestBehindStepsLoopsComeSooner(t *testing.T) {
	t.Parallel()
	for p := range fewPlaces() {
		d, _ := impl.DeskNew(p)
		before, long := loopBy(firingAt(p))
		after, done := impl.DeskDo(d, impl.Deed{Kind: impl.DkStep})
		if done != (slices.Max(p.State) > 0) {
			t.Fatalf("%v: the step is done: %v", p, done)
		}
		if !done {
			continue
		}
		nextBefore, nextLong := impl.LoopOf(after.Now.Net, after.Now.Kinds, after.Now.State)
		if nextLong != long || nextBefore != max(before-1, 0) {
			t.Fatalf("%v: the loop is %d, %d, and behind a step %d, %d", p, before, long, nextBefore, nextLong)
		}
	}
}

// All deeds are tried at each place of one node and of two, and at a few others.
func TestEachDeed(t *testing.T) {
	t.Parallel()
	for p := range smallPlaces() {
		wantEachDeed(t, impl.Desk{Now: p})
	}
	for _, p := range edgePlaces() {
		wantEachDeed(t, impl.Desk{Now: p, Past: []impl.Place{ringPlace()}})
	}
	for d := range drawnDesks(100) {
		wantEachDeed(t, d)
	}
}

func wantEachDeed(t *testing.T, d impl.Desk) {
	for a := range everyDeed() {
		wantDone(t, d, a)
	}
	for _, a := range wrongDeeds() {
		after, done := impl.DeskDo(d, a)
		wantDesk(t, fmt.Sprint("not done: ", a), after, d)
		if done {
			t.Fatalf("%v: %v is done", d, a)
		}
	}
}

// Deeds with the numbers of nodes and of kinds are tried at more places.
func TestEachDeedWithNumbersOfNodes(t *testing.T) {
	t.Parallel()
	for p := range fewPlaces() {
		d := impl.Desk{Now: p, Past: []impl.Place{p}}
		for a := -1; a <= 7; a++ {
			for b := -1; b <= 7; b++ {
				wantDone(t, d, impl.Deed{Kind: impl.DkJoin, A: a, B: b})
			}
			wantDone(t, d, impl.Deed{Kind: impl.DkLight, A: a})
			wantDone(t, d, impl.Deed{Kind: impl.DkKinds, A: a})
			wantDone(t, d, impl.Deed{Kind: impl.DkStep, A: a})
		}
	}
}

func TestDeeds(t *testing.T) {
	ring := ringPlace()
	four := impl.Place{Net: []int{2, 1}, Kinds: 4, State: []int{3, 0}}
	cases := []struct {
		what string
		p    impl.Place
		a    impl.Deed
		want string
	}{
		{"parted", ring, impl.Deed{Kind: impl.DkJoin, A: 0, B: 3}, "4 01,12,23 3 0122"},
		{"parted, from the greater one", ring, impl.Deed{Kind: impl.DkJoin, A: 3, B: 0}, "4 01,12,23 3 0122"},
		{"joined", ring, impl.Deed{Kind: impl.DkJoin, A: 0, B: 2}, "4 01,02,03,12,23 3 0122"},
		{"lit", ring, impl.Deed{Kind: impl.DkLight, A: 0}, "4 01,03,12,23 3 1122"},
		{"a step", ring, impl.Deed{Kind: impl.DkStep}, "4 01,03,12,23 3 1200"},
		{"one kind more", ring, impl.Deed{Kind: impl.DkKinds, A: 4}, "4 01,03,12,23 4 0122"},
		{"two kinds more", ring, impl.Deed{Kind: impl.DkKinds, A: 5}, "4 01,03,12,23 5 0122"},
		{"one kind more of four", four, impl.Deed{Kind: impl.DkKinds, A: 5}, "2 01 5 30"},
		{"a node and itself", ring, impl.Deed{Kind: impl.DkJoin, A: 2, B: 2}, ""},
		{"a node beyond", ring, impl.Deed{Kind: impl.DkJoin, A: 0, B: 4}, ""},
		{"a node below 0", ring, impl.Deed{Kind: impl.DkJoin, A: -1, B: 0}, ""},
		{"lit, but it fires", ring, impl.Deed{Kind: impl.DkLight, A: 1}, ""},
		{"lit, but it is tired", ring, impl.Deed{Kind: impl.DkLight, A: 2}, ""},
		{"lit beyond", ring, impl.Deed{Kind: impl.DkLight, A: 4}, ""},
		{"lit, with another number", ring, impl.Deed{Kind: impl.DkLight, A: 0, B: 1}, ""},
		{"a step of nothing", impl.Place{Net: []int{2, 1}, Kinds: 3, State: []int{0, 0}}, impl.Deed{Kind: impl.DkStep}, ""},
		{"a step with a number", ring, impl.Deed{Kind: impl.DkStep, A: 1}, ""},
		{"as many kinds as before", ring, impl.Deed{Kind: impl.DkKinds, A: 3}, ""},
		{"too few kinds", ring, impl.Deed{Kind: impl.DkKinds, A: 2}, ""},
		{"too many kinds", ring, impl.Deed{Kind: impl.DkKinds, A: 6}, ""},
		{"too few kinds for the state", four, impl.Deed{Kind: impl.DkKinds, A: 3}, ""},
		{"kinds with another number", ring, impl.Deed{Kind: impl.DkKinds, A: 4, B: 4}, ""},
		{"back to nothing", ring, impl.Deed{Kind: impl.DkBack}, ""},
		{"another kind", ring, impl.Deed{Kind: 5}, ""},
		{"a kind below 0", ring, impl.Deed{Kind: -1}, ""},
	}
	for _, c := range cases {
		d, _ := impl.DeskNew(c.p)
		after, done := impl.DeskDo(d, c.a)
		if c.want == "" {
			wantDesk(t, c.what, after, d)
		} else if impl.PlaceText(after.Now) != c.want || len(after.Past) != 1 || !samePlaces(after.Past[0], c.p) {
			t.Fatalf("%s: %v, not %s", c.what, after, c.want)
		}
		if done != (c.want != "") {
			t.Fatalf("%s is done: %v", c.what, done)
		}
	}
}

// Back leads to the place of before even if that is the same.
func TestBackToTheSamePlace(t *testing.T) {
	p := ringPlace()
	after, done := impl.DeskDo(impl.Desk{Now: p, Past: []impl.Place{{Net: []int{0}, Kinds: 5, State: []int{4}}, p}}, impl.Deed{Kind: impl.DkBack})
	wantDesk(t, "back", after, impl.Desk{Now: p, Past: []impl.Place{{Net: []int{0}, Kinds: 5, State: []int{4}}}})
	if !done {
		t.Fatal("back is not done")
	}
}

// Of more places than there may be the first ones are gone, one by one.
func TestThePlacesOfBeforeAreTheLastOnes(t *testing.T) {
	places := []impl.Place{ringPlace()}
	d, _ := impl.DeskNew(places[0])
	for place := range 30 {
		a := impl.Deed{Kind: impl.DkJoin, A: place % 3, B: 3}
		now, _ := placeAfterBy(places[place], a)
		places = append(places, now)
		after, done := impl.DeskDo(d, a)
		wantDesk(t, fmt.Sprint(place+1, " deeds"), after, impl.Desk{Now: now, Past: places[max(0, place-7) : place+1]})
		if d = after; !done {
			t.Fatalf("%v is not done", a)
		}
	}
	for many := range 10 {
		after, done := impl.DeskDo(d, impl.Deed{Kind: impl.DkBack})
		at := 30 - min(many+1, 8)
		wantDesk(t, fmt.Sprint(many+1, " times back"), after, impl.Desk{Now: places[at], Past: places[22:at]})
		if d = after; done != (many < 8) {
			t.Fatalf("%d times back is done: %v", many+1, done)
		}
	}
}

// Promise 89.

func TestWhateverIsDoneItIsAPlace(t *testing.T) {
	t.Parallel()
	for d, draw := range drawnDesks(1500) {
		list := drawnDeeds(draw, draw(impl.MaxLines+1))
		for place := range list {
			if draw(10) == 0 {
				list[place] = wrongDeeds()[draw(len(wrongDeeds()))]
			}
		}
		after, count := impl.DeskRun(d, list)
		want, wantCount := deskRunBy(d, list)
		wantDesk(t, fmt.Sprint(d, " after ", list), after, want)
		wantNumber(t, fmt.Sprint(d, " after ", list), count, wantCount)
		if !impl.DeskOk(after) || !impl.PlaceOk(after.Now) {
			t.Fatalf("%v after %v is no desk: %v", d, list, after)
		}
		for cut := range len(list) + 1 {
			middle, first := impl.DeskRun(d, list[:cut])
			last, second := impl.DeskRun(middle, list[cut:])
			wantDesk(t, fmt.Sprint("in two parts, cut at ", cut), last, after)
			wantNumber(t, fmt.Sprint("in two parts, cut at ", cut), first+second, count)
		}
	}
}

func TestRunsOfMostDeeds(t *testing.T) {
	d, _ := impl.DeskNew(ringPlace())
	join := impl.Deed{Kind: impl.DkJoin, A: 0, B: 1}
	for _, many := range []int{0, 1, 39, 40} {
		after, count := impl.DeskRun(d, slices.Repeat([]impl.Deed{join}, many))
		wantNumber(t, fmt.Sprint(many, " deeds"), count, many)
		want, _ := deskRunBy(d, slices.Repeat([]impl.Deed{join}, many))
		wantDesk(t, fmt.Sprint(many, " deeds"), after, want)
	}
	for _, many := range []int{41, 42, 80, 1000} {
		after, count := impl.DeskRun(d, slices.Repeat([]impl.Deed{join}, many))
		wantNoDesk(t, fmt.Sprint(many, " deeds"), after)
		wantNumber(t, fmt.Sprint(many, " deeds"), count, 0)
		// Those that cannot be done are deeds as well.
		after, count = impl.DeskRun(d, slices.Repeat([]impl.Deed{{Kind: 9}}, many))
		wantNoDesk(t, fmt.Sprint(many, " deeds that are none"), after)
		wantNumber(t, fmt.Sprint(many, " deeds that are none"), count, 0)
	}
	after, count := impl.DeskRun(d, slices.Repeat([]impl.Deed{{Kind: 9}}, 40))
	wantDesk(t, "40 deeds that are none", after, d)
	wantNumber(t, "40 deeds that are none", count, 0)
}

// Promises 107 and 108.

// deedTexts has all deeds that have a text by their texts, told by counting up.
func deedTexts() map[string]impl.Deed {
	texts := map[string]impl.Deed{"step": {Kind: 2}, "back": {Kind: 4}}
	for a := range 100 {
		texts[fmt.Sprint("light ", a)] = impl.Deed{Kind: 1, A: a}
		texts[fmt.Sprint("kinds ", a)] = impl.Deed{Kind: 3, A: a}
		for b := range 100 {
			texts["join "+strconv.Itoa(a)+" "+strconv.Itoa(b)] = impl.Deed{Kind: 0, A: a, B: b}
		}
	}
	return texts
}

func TestTextsOfDeedsAreRead(t *testing.T) {
	texts := deedTexts()
	wantNumber(t, "deeds with a text", len(texts), 10000+100+100+1+1)
	for text, a := range texts {
		read, ok := impl.ReadDeed(text)
		if impl.DeedText(a) != text || !ok || read != a {
			t.Fatalf("%v: %q, not %q, which is read as %v, %v", a, impl.DeedText(a), text, read, ok)
		}
	}
}

func TestEachDeedHasItsTextOrNone(t *testing.T) {
	t.Parallel()
	byDeed := map[impl.Deed]string{}
	for text, a := range deedTexts() {
		byDeed[a] = text
	}
	for kind := -2; kind <= 7; kind++ {
		for a := -3; a <= 103; a++ {
			for b := -3; b <= 103; b++ {
				deed := impl.Deed{Kind: kind, A: a, B: b}
				if text := impl.DeedText(deed); text != byDeed[deed] {
					t.Fatalf("%v: %q, not %q", deed, text, byDeed[deed])
				}
			}
		}
	}
	for deed := range everyDeed() {
		if text := impl.DeedText(deed); text != byDeed[deed] {
			t.Fatalf("%v: %q, not %q", deed, text, byDeed[deed])
		}
	}
	for _, deed := range wrongDeeds() {
		if text := impl.DeedText(deed); text != "" {
			t.Fatalf("%v: %q", deed, text)
		}
	}
}

// deedReader holds what is read from texts against all texts that there are.
type deedReader struct{ texts map[string]impl.Deed }

func (r deedReader) want(t *testing.T, text string) {
	t.Helper()
	read, ok := impl.ReadDeed(text)
	want, wantOk := r.texts[text]
	if read != want || ok != wantOk {
		t.Fatalf("%q: %v, %v, not %v, %v", text, read, ok, want, wantOk)
	}
	if ok && impl.DeedText(read) != text {
		t.Fatalf("%q: %v has another text", text, read)
	}
}

func TestReadDeedsAreCanonical(t *testing.T) {
	t.Parallel()
	reader := deedReader{deedTexts()}
	for text := range reader.texts {
		reader.want(t, text)
		for _, other := range []string{text + " ", " " + text, text + "\n", text + "0", text + " 0", text + " 1", strings.Replace(text, " ", "  ", 1), strings.Replace(text, " ", " 0", 1), text[:len(text)-1], text[1:]} {
			reader.want(t, other)
		}
		if read, ok := impl.ReadDeed(text + " "); ok || read != (impl.Deed{}) {
			t.Fatalf("%q with a space behind it: %v, %v", text, read, ok)
		}
	}
}

func TestTextsOfDeedsWithAnotherByte(t *testing.T) {
	t.Parallel()
	reader := deedReader{deedTexts()}
	for _, text := range []string{"join 0 0", "join 1 3", "join 10 99", "light 0", "light 99", "kinds 4", "kinds 10", "step", "back"} {
		for place := range len(text) + 1 {
			reader.want(t, text[:place])
			for number := range 256 {
				sign := string([]byte{byte(number)})
				reader.want(t, text[:place]+sign+text[place:])
				if place < len(text) {
					reader.want(t, text[:place]+text[place+1:])
					reader.want(t, text[:place]+sign+text[place+1:])
				}
			}
		}
	}
}

func TestTextsOfDeedsWithOtherNumbers(t *testing.T) {
	t.Parallel()
	reader := deedReader{deedTexts()}
	for behind := range textsOf("0159 -+.", 5) {
		for _, word := range []string{"join", "light", "kinds", "step", "back", "join ", "light ", "kinds ", "step ", "back ", "join 7 ", "light 7 "} {
			reader.want(t, word+behind)
		}
	}
	for _, number := range []string{"100", "101", "256", "300", "4294967296", "4294967297", "18446744073709551616", "18446744073709551617", "99999999999999999999999999", "1e1", "0x1", "1_0", "٣", "\xff", strings.Repeat("0", 100000), strings.Repeat("1", 100000)} {
		for _, text := range []string{"join " + number + " 1", "join 1 " + number, "light " + number, "kinds " + number, "step " + number, "back " + number} {
			reader.want(t, text)
		}
	}
	for _, word := range []string{"", " ", "  ", "Join", "JOIN", "joi", "joinn", "join\t", "lights", "kind", "steps", "backs", "place", "ends", "fired", "far", "x"} {
		for _, behind := range []string{"", " ", " 0", " 1 2", "\t1 2", " 1\t2", " 1 2 3"} {
			reader.want(t, word+behind)
		}
	}
}

// Promise 110.

// questionLines are those that ask, and have an answer that is not what.
func questionLines() []string {
	lines := []string{"place", "ends", "loop", "counts", "parts", "flat", "heights"}
	for _, number := range []int{0, 1, 2, 3, 5, 6, 7, 59, 60, 61, 63, 64, 65, 99, 100, 128, 999, 1000, 65536, 99999, 100000, 999999} {
		lines = append(lines, fmt.Sprint("fired ", number), fmt.Sprint("turned ", number), fmt.Sprint("far ", number))
	}
	return lines
}

// otherLines are no questions, and no deeds.
func otherLines() []string {
	lines := []string{
		"", " ", "  ", "\n", "\x00", "\xff", "x", "what", "ok", "not", "none", "never", "yes", "no", ".", "0", "1", "-1", "0 1", "place ends", "place\nends", "2 01 3 00",
		"join", "join ", "join 1", "join 1 ", "join  1 2", "join 1 2 3", "join 1,2", "join 01 2", "join 1 02", "join 100 1", "join 1 100", "join -1 0", "join a b",
		"light", "light ", "light 00", "light 1 0", "light 0 0", "light -1", "light 100", "light x", "kinds", "kinds 04", "kinds 4 0", "kinds 100", "kinds -3", "step 0", "step 1", "step step", "back 0", "back 1", "back back",
	}
	for _, word := range []string{"place", "ends", "loop", "counts", "parts", "flat", "heights"} {
		lines = append(lines, word+" ", " "+word, word+" 0", word+" 1", word+"\n", word+"\x00", word[:len(word)-1], word+"s", strings.ToUpper(word), strings.ToUpper(word[:1])+word[1:], word+" "+word)
	}
	for _, word := range []string{"fired", "turned", "far"} {
		lines = append(lines, word, word+" ", " "+word, word+"0", word+"  0", word+"\t0", " "+word+" 0", word+" 0 ", word+" 0\n", word+" 0 0", word+" 1 2", word+" x", word+" -", word+" ,")
		for _, number := range []string{"00", "01", "06", "000000", "000001", "+0", "-0", "+1", "-1", "-5", "1000000", "1000001", "9999999", "0000000", "1.0", "1e1", "0x1", "1_0", "٣", "\xff", "1,2", "4294967296", "9223372036854775808", "18446744073709551616", strings.Repeat("9", 10000), strings.Repeat("0", 10000)} {
			lines = append(lines, word+" "+number)
		}
		lines = append(lines, strings.ToUpper(word)+" 0", word[1:]+" 0", word+word+" 0")
	}
	return lines
}

func rowText(row []int) string {
	var texts []string
	for _, number := range row {
		texts = append(texts, fmt.Sprint(number))
	}
	return strings.Join(texts, ",")
}

var someQuestion = regexp.MustCompile(`^(fired|turned|far) (0|[1-9][0-9]{0,5})$`)

// answerBy has the answer to a line that is no deed, reckoned by other ways than the program's.
func answerBy(p impl.Place, line string) string {
	f := firingAt(p)
	far := farTable(p.Net)
	switch line {
	case "place":
		return placeTextBy(p)
	case "ends":
		return endsBy(f)
	case "loop":
		before, long := loopBy(f)
		return fmt.Sprintf("%d,%d", before, long)
	case "counts":
		counts := make([]int, p.Kinds)
		for _, kind := range p.State {
			counts[kind]++
		}
		return rowText(counts)
	case "parts":
		return rowText(partsBy(far))
	case "flat", "heights":
		return heightAnswerBy(p, line)
	}
	words := someQuestion.FindStringSubmatch(line)
	if words == nil {
		return "what"
	}
	number, _ := strconv.Atoi(words[2])
	switch {
	case words[1] == "far" && number < len(p.Net):
		return rowText(far[number])
	case words[1] == "fired" && number <= 60:
		return rowText(firedBy(f, number))
	case words[1] == "turned" && number <= 60 && p.Kinds == 3:
		return rowText(turnedBy(turning{p.Net, p.State}, number))
	}
	return "none"
}

func endsBy(f firing) string {
	before, long := loopBy(f)
	for steps, state := range historyBy(f, before+long) {
		if slices.Max(state) == 0 {
			return fmt.Sprint(steps)
		}
	}
	return "never"
}

func heightAnswerBy(p impl.Place, line string) string {
	if p.Kinds != 3 {
		return "none"
	}
	heights, flat := heightsBy(turning{p.Net, p.State})
	switch {
	case line == "flat" && flat:
		return "yes"
	case line == "flat":
		return "no"
	case flat:
		return rowText(heights)
	}
	return "none"
}

func firedBy(f firing, steps int) []int {
	fired := make([]int, len(f.net))
	history := historyBy(f, steps)
	for step := 1; step <= steps; step++ {
		for node := range fired {
			if history[step-1][node] == 0 && history[step][node] == 1 {
				fired[node]++
			}
		}
	}
	return fired
}

func turnedBy(w turning, turns int) []int {
	turned := make([]int, len(w.net))
	history := turnsBy(w, turns)
	for turn := 1; turn <= turns; turn++ {
		for node := range turned {
			if history[turn-1][node] != history[turn][node] {
				turned[node]++
			}
		}
	}
	return turned
}

// wantAnswer holds a line that is no deed against answerBy: the desk stays.
func wantAnswer(t *testing.T, d impl.Desk, line string) {
	t.Helper()
	after, answer := impl.DeskLine(d, line)
	if want := answerBy(d.Now, line); answer != want {
		t.Fatalf("%v, asked %q: %q, not %q", d, line, answer, want)
	}
	if !sameDesks(after, d) {
		t.Fatalf("%v, asked %q: %v", d, line, after)
	}
}

func TestQuestionsChangeNothing(t *testing.T) {
	t.Parallel()
	short := []string{"place", "ends", "loop", "counts", "parts", "flat", "heights", "fired 0", "fired 7", "turned 0", "turned 5", "far 0", "far 1", "far 5", ""}
	for p := range fewPlaces() {
		d := impl.Desk{Now: p, Past: []impl.Place{p, ringPlace()}}
		for _, line := range short {
			wantAnswer(t, d, line)
		}
	}
}

func TestEachQuestion(t *testing.T) {
	t.Parallel()
	for p := range smallPlaces() {
		for _, line := range questionLines() {
			wantAnswer(t, impl.Desk{Now: p}, line)
		}
	}
	for d := range drawnDesks(300) {
		for _, line := range questionLines() {
			wantAnswer(t, d, line)
		}
	}
	for _, p := range edgePlaces() {
		for _, line := range questionLines() {
			wantAnswer(t, impl.Desk{Now: p}, line)
		}
	}
}

func TestOtherLinesAreAnsweredByWhat(t *testing.T) {
	t.Parallel()
	for d := range drawnDesks(40) {
		for _, line := range otherLines() {
			after, answer := impl.DeskLine(d, line)
			wantDesk(t, fmt.Sprintf("behind %q", line), after, d)
			if answer != "what" {
				t.Fatalf("%q is answered by %q", line, answer)
			}
		}
	}
}

func TestLinesOfDeedsAreDone(t *testing.T) {
	t.Parallel()
	texts := deedTexts()
	d, _ := impl.DeskNew(ringPlace())
	for text, a := range texts {
		wantLineDone(t, d, text, a)
	}
	for d, draw := range drawnDesks(3000) {
		for _, a := range drawnDeeds(draw, 10) {
			wantLineDone(t, d, impl.DeedText(a), a)
		}
	}
}

// Unless the answer is ok, it is the desk before.
func wantLineDone(t *testing.T, d impl.Desk, text string, a impl.Deed) {
	t.Helper()
	after, answer := impl.DeskLine(d, text)
	want, done := deskDoBy(d, a)
	wantAnswer := map[bool]string{true: "ok", false: "not"}[done]
	if answer != wantAnswer || !sameDesks(after, want) || !impl.DeskOk(after) {
		t.Fatalf("%v, told %q: %q, %v, not %q, %v", d, text, answer, after, wantAnswer, want)
	}
	if answer != "ok" && !sameDesks(after, d) {
		t.Fatalf("%v, told %q: %q, %v", d, text, answer, after)
	}
}

// The numbers of questions have one to six digits: all of one and two are tried, and one of each length.
func TestNumbersOfQuestions(t *testing.T) {
	t.Parallel()
	for _, p := range []impl.Place{ringPlace(), {Net: []int{0}, Kinds: 3, State: []int{1}}, {Net: []int{2, 1, 0, 0, 0, 0}, Kinds: 5, State: []int{1, 0, 4, 0, 0, 0}}} {
		for _, word := range []string{"fired", "turned", "far"} {
			for number := range 200 {
				wantAnswer(t, impl.Desk{Now: p}, fmt.Sprint(word, " ", number))
			}
			for digits := 1; digits <= 12; digits++ {
				wantAnswer(t, impl.Desk{Now: p}, word+" "+strings.Repeat("1", digits))
				wantAnswer(t, impl.Desk{Now: p}, word+" 1"+strings.Repeat("0", digits))
				wantAnswer(t, impl.Desk{Now: p}, word+" "+strings.Repeat("0", digits))
			}
			for behind := range textsOf("016 -+,", 4) {
				wantAnswer(t, impl.Desk{Now: p}, word+behind)
				wantAnswer(t, impl.Desk{Now: p}, word+" "+behind)
			}
		}
	}
}

func TestAnswers(t *testing.T) {
	path := impl.Place{Net: []int{2, 5, 2}, Kinds: 4, State: []int{1, 0, 2}}
	two := impl.Place{Net: []int{2, 1, 0}, Kinds: 3, State: []int{0, 2, 0}}
	cases := []struct {
		p          impl.Place
		line, want string
	}{
		{path, "place", "3 01,12 4 102"},
		{path, "ends", "4"},
		{path, "loop", "4,1"},
		{path, "counts", "1,1,1,0"},
		{path, "parts", "0,0,0"},
		{path, "flat", "none"},
		{path, "heights", "none"},
		{path, "fired 0", "0,0,0"},
		{path, "fired 1", "0,1,0"},
		{path, "fired 60", "0,1,0"},
		{path, "fired 61", "none"},
		{path, "fired 999999", "none"},
		{path, "fired 1000000", "what"},
		{path, "turned 0", "none"},
		{path, "turned 61", "none"},
		{path, "far 0", "0,1,2"},
		{path, "far 3", "none"},
		{path, "far 64", "none"},
		{two, "flat", "yes"},
		{two, "heights", "0,-1,0"},
		{two, "parts", "0,0,2"},
		{two, "far 0", "0,1,-1"},
		{two, "far 2", "-1,-1,0"},
		{two, "turned 2", "0,1,0"},
		{two, "turned 61", "none"},
		{ringPlace(), "flat", "no"},
		{ringPlace(), "heights", "none"},
		{ringPlace(), "ends", "never"},
	}
	for _, c := range cases {
		d, _ := impl.DeskNew(c.p)
		after, answer := impl.DeskLine(d, c.line)
		wantDesk(t, c.line, after, d)
		if answer != c.want {
			t.Fatalf("%v, asked %q: %q, not %q", c.p, c.line, answer, c.want)
		}
	}
}

// The document's examples.
func TestExamplesOfLines(t *testing.T) {
	said := [][2]string{
		{"ends", "never"}, {"loop", "1,4"}, {"fired 6", "2,1,1,2"}, {"turned 6", "5,4,4,5"}, {"far 0", "0,1,2,1"},
		{"join 0 3", "ok"}, {"ends", "3"}, {"heights", "0,1,2,2"}, {"light 0", "ok"}, {"step", "ok"},
		{"place", "4 01,12,23 3 2200"}, {"kinds 4", "ok"}, {"ends", "2"},
	}
	var lines, want []string
	for _, pair := range said {
		lines, want = append(lines, pair[0]), append(want, pair[1])
	}
	p, ok := impl.ReadPlace("4 01,03,12,23 3 0122")
	d, isDesk := impl.DeskNew(p)
	after, answers := impl.DeskSay(d, lines)
	if !ok || !isDesk || !slices.Equal(answers, want) || impl.PlaceText(after.Now) != "4 01,12,23 4 2200" || len(after.Past) != 4 {
		t.Fatalf("%q, not %q, at %v", answers, want, after)
	}
}

// Promise 91.

func drawnLine(draw func(int) int) string {
	questions, others := questionLines(), otherLines()
	switch draw(5) {
	case 0:
		return questions[draw(7)]
	case 1:
		return questions[draw(len(questions))]
	case 2:
		return others[draw(len(others))]
	}
	return impl.DeedText(drawnDeed(draw))
}

func TestWhateverIsSaidThePlaceIsTold(t *testing.T) {
	t.Parallel()
	texts := deedTexts()
	for d, draw := range drawnDesks(400) {
		var lines []string
		for range draw(impl.MaxLines + 1) {
			lines = append(lines, drawnLine(draw))
		}
		after, answers := impl.DeskSay(d, lines)
		wantSaid(t, d, lines, texts, after, answers)
		for cut := range len(lines) + 1 {
			middle, first := impl.DeskSay(d, lines[:cut])
			last, second := impl.DeskSay(middle, lines[cut:])
			wantDesk(t, fmt.Sprint("in two parts, cut at ", cut), last, after)
			if !slices.Equal(slices.Concat(first, second), answers) {
				t.Fatalf("%q, cut at %d: %q and %q, not %q", lines, cut, first, second, answers)
			}
			_, told := impl.DeskSay(middle, []string{"place"})
			read, ok := impl.ReadPlace(told[0])
			wantPlace(t, told[0], read, middle.Now)
			if !ok {
				t.Fatalf("%q is not read", told)
			}
		}
	}
}

// wantSaid goes line by line.
func wantSaid(t *testing.T, d impl.Desk, lines []string, texts map[string]impl.Deed, after impl.Desk, answers []string) {
	t.Helper()
	wantNumber(t, "answers", len(answers), len(lines))
	for place, line := range lines {
		answer := answerBy(d.Now, line)
		if a, ok := texts[line]; ok {
			answer = "not"
			if d, ok = deskDoBy(d, a); ok {
				answer = "ok"
			}
		}
		if answers[place] != answer || answer == "" {
			t.Fatalf("%q is answered by %q, not %q", line, answers[place], answer)
		}
	}
	wantDesk(t, fmt.Sprintf("behind %q", lines), after, d)
}

func TestMostLines(t *testing.T) {
	d, _ := impl.DeskNew(ringPlace())
	for _, many := range []int{0, 1, 39, 40} {
		for _, line := range []string{"place", "join 0 1", ""} {
			_, answers := impl.DeskSay(d, slices.Repeat([]string{line}, many))
			wantNumber(t, fmt.Sprint(many, " lines"), len(answers), many)
		}
	}
	for _, many := range []int{41, 42, 80, 1000} {
		for _, line := range []string{"place", "join 0 1", ""} {
			after, answers := impl.DeskSay(d, slices.Repeat([]string{line}, many))
			wantNoDesk(t, fmt.Sprint(many, " lines"), after)
			wantNumber(t, fmt.Sprint(many, " lines"), len(answers), 0)
		}
	}
	after, answers := impl.DeskSay(d, nil)
	wantDesk(t, "no lines", after, d)
	wantNumber(t, "no lines", len(answers), 0)
}

// The general rules: arguments are never written to, and results are new.

// withSpareDesk has the same desk with spare capacity in all its rows, and behind its places of before.
func withSpareDesk(d impl.Desk) impl.Desk {
	spare := func(p impl.Place) impl.Place {
		return impl.Place{Net: withSpare(p.Net), Kinds: p.Kinds, State: withSpare(p.State)}
	}
	long := impl.Desk{Now: spare(d.Now)}
	for _, p := range append(slices.Clone(d.Past), ringPlace(), ringPlace()) {
		long.Past = append(long.Past, spare(p))
	}
	long.Past = long.Past[:len(d.Past)]
	return long
}

// wantUnwrittenDesk reports a desk of withSpareDesk that is not as it was.
func wantUnwrittenDesk(t *testing.T, what string, d, before impl.Desk) {
	t.Helper()
	wantDesk(t, what+" is written to", d, before)
	behind := d.Past[:len(d.Past)+2]
	for _, p := range append([]impl.Place{d.Now}, behind...) {
		wantUnwritten(t, what, p.Net, p.Net)
		wantUnwritten(t, what, p.State, p.State)
	}
	for _, p := range behind[len(d.Past):] {
		wantPlace(t, what+" is written to behind its end", p, ringPlace())
	}
}

// wantApart writes an own number to each row of some desks, and an own number of kinds to each row of places, also where they have spare capacity: none is found in another one.
func wantApart(t *testing.T, what string, desks ...impl.Desk) {
	t.Helper()
	var rows [][]int
	add := func(p impl.Place) {
		rows = append(rows, p.Net[:cap(p.Net)], p.State[:cap(p.State)])
	}
	for number, d := range desks {
		add(d.Now)
		past := d.Past[:cap(d.Past)]
		for place := range past {
			add(past[place])
			past[place].Kinds = -1 - number
		}
	}
	for number, row := range rows {
		for place := range row {
			row[place] = -1 - number
		}
	}
	for number, row := range rows {
		wantRow(t, what+" shares memory", row, slices.Repeat([]int{-1 - number}, len(row)))
	}
	for number, d := range desks {
		for _, p := range d.Past[:cap(d.Past)] {
			wantNumber(t, what+" shares places", p.Kinds, -1-number)
		}
	}
}

func TestDesksAreNew(t *testing.T) {
	t.Parallel()
	deeds := []impl.Deed{{Kind: impl.DkJoin, A: 0, B: 1}, {Kind: impl.DkLight, A: 0}, {Kind: impl.DkStep}, {Kind: impl.DkKinds, A: 4}, {Kind: impl.DkBack}, {Kind: impl.DkJoin}, {Kind: 9}}
	for d := range drawnDesks(500) {
		given := withSpareDesk(d)
		var results []impl.Desk
		fresh, _ := impl.DeskNew(given.Now)
		results = append(results, fresh)
		for _, a := range deeds {
			after, _ := impl.DeskDo(given, a)
			again, _ := impl.DeskDo(given, a)
			run, _ := impl.DeskRun(given, []impl.Deed{a, a, {Kind: impl.DkJoin, A: 0, B: 1}})
			none, _ := impl.DeskRun(given, nil)
			results = append(results, after, again, run, none)
		}
		for _, line := range []string{"", "place", "step", "back", "join 0 1", "light 0", "kinds 5", "join 0 0", "heights", "fired 3"} {
			after, _ := impl.DeskLine(given, line)
			said, _ := impl.DeskSay(given, []string{line, "join 0 1", line})
			results = append(results, after, said)
		}
		wantUnwrittenDesk(t, "the desk", given, d)
		wantApart(t, "the desk", append(results, given)...)
	}
}

func TestListsAndLinesAreUnwritten(t *testing.T) {
	d, _ := impl.DeskNew(ringPlace())
	list := []impl.Deed{{Kind: impl.DkStep}, {Kind: impl.DkLight, A: 1}, {Kind: impl.DkBack}, {Kind: 9}}
	lines := []string{"step", "place", "back", "x"}
	impl.DeskRun(d, list[:3])
	impl.JournalText(list[:3])
	_, answers := impl.DeskSay(d, lines[:3])
	answers = append(answers, "more")
	answers[0] = "other"
	if !slices.Equal(lines, []string{"step", "place", "back", "x"}) || !slices.Equal(list, []impl.Deed{{Kind: 2}, {Kind: 1, A: 1}, {Kind: 4}, {Kind: 9}}) {
		t.Fatalf("%q, %v", lines, list)
	}
	again, _ := impl.DeskSay(d, lines[:3])
	wantDesk(t, "said again", again, d)
}
