package tests

import (
	"fmt"
	"iter"
	"math"
	"slices"
	"strings"
	"testing"

	"loop.example/firingnets/impl"
)

// journalBy has the text of deeds that all have one.
func journalBy(list []impl.Deed) string {
	text := ""
	for _, a := range list {
		switch a.Kind {
		case 0:
			text += fmt.Sprintf("join %d %d\n", a.A, a.B)
		case 1:
			text += fmt.Sprintf("light %d\n", a.A)
		case 2:
			text += "step\n"
		case 3:
			text += fmt.Sprintf("kinds %d\n", a.A)
		case 4:
			text += "back\n"
		}
	}
	return text
}

// journalReader reads journals by all texts of deeds that there are.
type journalReader struct{ texts map[string]impl.Deed }

func newJournalReader() journalReader {
	return journalReader{deedTexts()}
}

func (r journalReader) read(text string) ([]impl.Deed, int) {
	var list []impl.Deed
	bytes := 0
	for _, line := range strings.SplitAfter(text, "\n") {
		a, ok := r.texts[strings.TrimSuffix(line, "\n")]
		if !ok || !strings.HasSuffix(line, "\n") {
			break
		}
		list = append(list, a)
		bytes += len(line)
	}
	return list, bytes
}

func (r journalReader) want(t *testing.T, text string) {
	t.Helper()
	list, bytes := impl.ReadJournal(text)
	want, wantBytes := r.read(text)
	if !slices.Equal(list, want) || bytes != wantBytes {
		t.Fatalf("%q: %v, %d, not %v, %d", text, list, bytes, want, wantBytes)
	}
}

// open has the desk of a store, deed by deed.
func (r journalReader) open(s impl.Store) impl.Desk {
	place, _ := readPlaceBy(s.Saved)
	list, _ := r.read(s.Log)
	d, _ := deskRunBy(impl.Desk{Now: place}, list)
	return d
}

// tornEnds are no lines of a journal, some with such lines behind them.
func tornEnds() []string {
	return []string{
		"s", "ste", "step", "join 1", "join 1 ", "join 1 2", "light", "light ", "light 0", "kinds 4", "bac", "back", " ", "\r", "x", "\x00", "\xff",
		"\n", "\n\n", "\nstep\n", " \n", " step\n", "step \n", "step\r\n", "step\n\r", "steps\nstep\n", "step 0\n", "back 1\nback\n", "light 00\n", "light 01\nstep\n", "light 100\n", "light -1\n", "light 1 0\n",
		"kinds 04\n", "kinds\n", "kinds 4 \n", "join 1\n", "join 0 01\n", "join 0 1 \n", "join  0 1\n", "join 0,1\n", "join 0 1 2\n", "join 100 0\n", "place\n", "ends\nstep\n", "fired 3\n", "\x00\n", "stepstep\n", "step step\n",
	}
}

// drawnStore has a log of at most so many deeds, and in two of three stores something torn behind them, with other deeds behind that.
func drawnStore(draw func(int) int, deeds int) impl.Store {
	log := journalBy(drawnDeeds(draw, draw(deeds+1)))
	if draw(3) > 0 {
		ends := tornEnds()
		log += ends[draw(len(ends))]
	}
	if draw(4) == 0 {
		log += journalBy(drawnDeeds(draw, draw(4)))
	}
	log = log[:min(len(log), impl.MaxLog)]
	return impl.Store{Saved: placeTextBy(drawnPlace(draw)), Log: log, Sure: draw(len(log) + 1)}
}

// drawnStores tells the same so many drawn stores each time, and what draws them.
func drawnStores(often, deeds int) iter.Seq2[impl.Store, func(int) int] {
	return func(yield func(impl.Store, func(int) int) bool) {
		draw := drawer()
		for range often {
			if !yield(drawnStore(draw, deeds), draw) {
				return
			}
		}
	}
}

// edgeStores have empty logs, full ones, logs that are torn at once, and places of one node and of most nodes.
func edgeStores() []impl.Store {
	var stores []impl.Store
	for _, p := range append(edgePlaces(), ringPlace()) {
		for _, log := range append(tornEnds(), "", "step\n", "light 0\nstep\n", "step\nste", fullLog(impl.MaxLog)) {
			for _, sure := range []int{0, len(log) / 2, len(log)} {
				stores = append(stores, impl.Store{Saved: placeTextBy(p), Log: log, Sure: sure})
			}
		}
	}
	return stores
}

// everyStore tells so many drawn stores, and then those of edgeStores.
func everyStore(often, deeds int) iter.Seq[impl.Store] {
	return func(yield func(impl.Store) bool) {
		for s := range drawnStores(often, deeds) {
			if !yield(s) {
				return
			}
		}
		slices.Values(edgeStores())(yield)
	}
}

// fullLog has a log of just so many bytes, a hundred or more, all of which is read: with lights, then steps until all is at rest, and a light at the end.
func fullLog(bytes int) string {
	// Lines of eight bytes make up for what is no multiple of five.
	lights := 2*bytes%5 + 5
	return strings.Repeat("light 0\n", lights-1) + strings.Repeat("step\n", (bytes-8*lights)/5) + "light 0\n"
}

// wrongStores have a saved text that is no place's, a log that is too long, or more bytes sure than there are.
func wrongStores() map[string]impl.Store {
	saved := "4 01,03,12,23 3 0122"
	wrong := map[string]impl.Store{
		"nothing":                     {},
		"one byte too many":           {Saved: saved, Log: strings.Repeat("x", 1001)},
		"one byte too many, sure":     {Saved: saved, Log: strings.Repeat("x", 1001), Sure: 1001},
		"one byte too many, all read": {Saved: saved, Log: fullLog(1001)},
		"one empty line too many":     {Saved: saved, Log: fullLog(1000) + "\n"},
		"very many bytes":             {Saved: saved, Log: strings.Repeat("step\n", 100000)},
		"no bytes, one sure":          {Saved: saved, Sure: 1},
		"fewer bytes than none":       {Saved: saved, Sure: -1},
		"one byte more sure":          {Saved: saved, Log: "step\n", Sure: 6},
		"one byte more sure, torn":    {Saved: saved, Log: "ste", Sure: 4},
		"more sure than a full log":   {Saved: saved, Log: fullLog(1000), Sure: 1001},
		"log and saved exchanged":     {Saved: "step\n", Log: saved},
	}
	for _, sure := range []int{-1, -2, -5, math.MinInt, 6, 1000, 1 << 32, 1<<32 + 1, math.MaxInt} {
		wrong[fmt.Sprint(sure, " bytes sure")] = impl.Store{Saved: saved, Log: "step\n", Sure: sure}
	}
	for _, text := range []string{" ", ".", "4 01,03,12,23 3 0122 ", " 4 01,03,12,23 3 0122", "4 01,03,12,23 3 0122\n", "4 01,03,12,23 3 012", "4 01,03,12,23 3 01222", "4 03,01,12,23 3 0122", "4 01,03,12,23 03 0122", "4 01,03,12,23 3 0123", "0 . 3 ", "7 . 3 0000000", "2 10 3 00", "1 . 2 0", "step\n", "\x00", strings.Repeat("1", 100000)} {
		wrong[fmt.Sprintf("%.40q saved", text)] = impl.Store{Saved: text}
		wrong[fmt.Sprintf("%.40q saved, with a log", text)] = impl.Store{Saved: text, Log: "light 0\nstep\n", Sure: 8}
	}
	return wrong
}

func wantStore(t *testing.T, what string, got, want impl.Store) {
	t.Helper()
	if got != want {
		t.Fatalf("%s: %#v, not %#v", what, got, want)
	}
}

func wantOpen(t *testing.T, what string, s impl.Store, want impl.Desk) {
	t.Helper()
	d, ok := impl.StoreOpen(s)
	wantDesk(t, what, d, want)
	if !ok {
		t.Fatalf("%s: %#v is not opened", what, s)
	}
}

// opened, synced, crashed and mended have what these calls lead to, which they are to do.
func opened(t *testing.T, s impl.Store) impl.Desk {
	t.Helper()
	d, ok := impl.StoreOpen(s)
	if !ok {
		t.Fatalf("%#v is not opened", s)
	}
	return d
}

func synced(t *testing.T, s impl.Store) impl.Store {
	t.Helper()
	after, ok := impl.StoreSync(s)
	if !ok {
		t.Fatalf("%#v is not made sure", s)
	}
	return after
}

func crashed(t *testing.T, s impl.Store, left int) impl.Store {
	t.Helper()
	after, ok := impl.StoreCrash(s, left)
	if !ok {
		t.Fatalf("%#v does not break down to %d bytes", s, left)
	}
	return after
}

func mended(t *testing.T, s impl.Store) impl.Store {
	t.Helper()
	after, ok := impl.StoreMend(s)
	if !ok {
		t.Fatalf("%#v is not mended", s)
	}
	return after
}

// Promise 109.

func TestJournalsAreRead(t *testing.T) {
	t.Parallel()
	draw := drawer()
	for range 5000 {
		list := drawnDeeds(draw, draw(60))
		text := impl.JournalText(list)
		read, bytes := impl.ReadJournal(text)
		if text != journalBy(list) || !slices.Equal(read, list) || bytes != len(text) {
			t.Fatalf("%v: %q, read as %v, %d", list, text, read, bytes)
		}
	}
	var all []impl.Deed
	for _, a := range deedTexts() {
		all = append(all, a)
	}
	text := impl.JournalText(all)
	read, bytes := impl.ReadJournal(text)
	if text != journalBy(all) || !slices.Equal(read, all) || bytes != len(text) {
		t.Fatalf("all deeds are read as %d of them, %d bytes of %d", len(read), bytes, len(text))
	}
}

func TestJournalsWithoutDeeds(t *testing.T) {
	for _, list := range [][]impl.Deed{nil, {}} {
		if text := impl.JournalText(list); text != "" {
			t.Fatalf("no deeds: %q", text)
		}
	}
	if list, bytes := impl.ReadJournal(""); len(list) != 0 || bytes != 0 {
		t.Fatalf("no text: %v, %d", list, bytes)
	}
}

func TestJournalsWithADeedWithoutAText(t *testing.T) {
	step := impl.Deed{Kind: impl.DkStep}
	for _, a := range wrongDeeds() {
		for _, list := range [][]impl.Deed{{a}, {step, a}, {a, step}, {step, step, a, step}, {a, a}} {
			if text := impl.JournalText(list); text != "" {
				t.Fatalf("%v: %q", list, text)
			}
		}
	}
}

func TestJournals(t *testing.T) {
	cases := []struct {
		text  string
		want  []impl.Deed
		bytes int
	}{
		{"step\n", []impl.Deed{{Kind: 2}}, 5},
		{"light 1\nstep\nba", []impl.Deed{{Kind: 1, A: 1}, {Kind: 2}}, 13},
		{"light 1\nstep\nback", []impl.Deed{{Kind: 1, A: 1}, {Kind: 2}}, 13},
		{"light 1\nstep\nback\n", []impl.Deed{{Kind: 1, A: 1}, {Kind: 2}, {Kind: 4}}, 18},
		{"light 1\n\nstep\n", []impl.Deed{{Kind: 1, A: 1}}, 8},
		{"\nlight 1\n", nil, 0},
		{"join 10 99\nkinds 0\nplace\nstep\n", []impl.Deed{{Kind: 0, A: 10, B: 99}, {Kind: 3}}, 19},
		{"step\r\nstep\r\n", nil, 0},
		{"step", nil, 0},
	}
	for _, c := range cases {
		list, bytes := impl.ReadJournal(c.text)
		if !slices.Equal(list, c.want) || bytes != c.bytes {
			t.Fatalf("%q: %v, %d, not %v, %d", c.text, list, bytes, c.want, c.bytes)
		}
	}
}

func TestJournalsThatAreTorn(t *testing.T) {
	t.Parallel()
	reader := newJournalReader()
	for _, before := range []string{"", "step\n", "light 1\nstep\n", "join 10 99\nkinds 4\nback\n"} {
		for _, torn := range tornEnds() {
			for _, behind := range []string{"", "step\n", "\nstep\n", "back"} {
				reader.want(t, before+torn+behind)
			}
		}
	}
	for text := range textsOf("step\n1 ", 6) {
		reader.want(t, "step\n"+text)
		reader.want(t, "light 1"+text)
		reader.want(t, "join 0 1"+text)
	}
	for _, text := range []string{strings.Repeat("\n", 100000), strings.Repeat("x", 100000), "step\n" + strings.Repeat("step", 100000), "join 1 1\n" + strings.Repeat(" ", 100000) + "\n"} {
		reader.want(t, text)
	}
}

// Each text is tried with any byte in place of each one, and ahead of it, and without it.
func TestJournalsWithAnotherByte(t *testing.T) {
	t.Parallel()
	reader := newJournalReader()
	for _, text := range []string{"step\n", "light 10\nback\n", "join 0 5\nkinds 4\nstep\nback\n"} {
		for place := range len(text) {
			reader.want(t, text[:place]+text[place+1:])
			for number := range 256 {
				sign := string([]byte{byte(number)})
				reader.want(t, text[:place]+sign+text[place:])
				reader.want(t, text[:place]+sign+text[place+1:])
			}
		}
	}
}

// Promise 90.

func TestWhereverAJournalIsCutADeskOfBeforeIsFound(t *testing.T) {
	t.Parallel()
	reader := newJournalReader()
	for d, draw := range drawnDesks(120) {
		list := drawnDeeds(draw, draw(45))
		text := impl.JournalText(list)
		for cut := range len(text) + 1 {
			read, bytes := impl.ReadJournal(text[:cut])
			reader.want(t, text[:cut])
			lines := strings.Count(text[:cut], "\n")
			if !slices.Equal(read, list[:lines]) || impl.JournalText(read) != text[:bytes] || bytes > cut {
				t.Fatalf("%q: %v, %d", text[:cut], read, bytes)
			}
			if cut == bytes {
				wantSaidAsRun(t, d, read)
			}
		}
	}
}

// wantSaidAsRun tells a desk the lines of deeds.
func wantSaidAsRun(t *testing.T, d impl.Desk, list []impl.Deed) {
	t.Helper()
	lines := strings.FieldsFunc(impl.JournalText(list), func(sign rune) bool { return sign == '\n' })
	wantNumber(t, "lines", len(lines), len(list))
	run, count := impl.DeskRun(d, list)
	said, answers := impl.DeskSay(d, lines)
	if len(list) > 40 {
		wantNoDesk(t, "too many deeds", run)
		wantNoDesk(t, "too many lines", said)
		return
	}
	wantDesk(t, fmt.Sprintf("%q said", lines), said, run)
	done := 0
	for _, answer := range answers {
		if answer == "ok" {
			done++
		}
	}
	wantNumber(t, fmt.Sprintf("%q said, deeds that were done", lines), done, count)
}

// Promise 92.

func TestEmptyLogsAreLogs(t *testing.T) {
	t.Parallel()
	for s := range everyStore(3000, 30) {
		wantStoresOfFewerSure(t, s)
	}
}

func wantStoresOfFewerSure(t *testing.T, s impl.Store) {
	t.Helper()
	if !impl.StoreOk(s) || !impl.StoreOk(impl.Store{Saved: s.Saved}) {
		t.Fatalf("%#v, or with an empty log, is no store", s)
	}
	for sure := -2; sure <= len(s.Log)+2; sure++ {
		other := impl.Store{Saved: s.Saved, Log: s.Log, Sure: sure}
		if impl.StoreOk(other) != (sure >= 0 && sure <= len(s.Log)) {
			t.Fatalf("%#v is a store: %v", other, impl.StoreOk(other))
		}
	}
}

func TestLogsOfMostBytes(t *testing.T) {
	saved := placeTextBy(ringPlace())
	for bytes := 900; bytes <= 1100; bytes++ {
		log := fullLog(bytes)
		wantNumber(t, "bytes of a log", len(log), bytes)
		for _, s := range []impl.Store{{Saved: saved, Log: log}, {Saved: saved, Log: log, Sure: bytes}, {Saved: saved, Log: strings.Repeat("\xff", bytes)}} {
			if impl.StoreOk(s) != (bytes <= 1000) {
				t.Fatalf("a log of %d bytes is one: %v", bytes, impl.StoreOk(s))
			}
		}
	}
}

func TestStoresWrong(t *testing.T) {
	t.Parallel()
	want := func(what string, s impl.Store, ok bool) {
		t.Helper()
		wantStore(t, what, s, impl.Store{})
		if ok {
			t.Fatalf("%s is a store", what)
		}
	}
	for what, s := range wrongStores() {
		want(what, impl.Store{}, impl.StoreOk(s))
		d, ok := impl.StoreOpen(s)
		wantNoDesk(t, what, d)
		want(what, impl.Store{}, ok)
		for _, a := range append(wrongDeeds(), impl.Deed{Kind: impl.DkJoin, A: 0, B: 1}, impl.Deed{Kind: impl.DkStep}, impl.Deed{Kind: impl.DkBack}) {
			after, ok := impl.StoreAct(s, a)
			want(what, after, ok)
		}
		for _, left := range []int{0, 1, s.Sure, len(s.Log), 1000, -1, math.MinInt, math.MaxInt} {
			after, ok := impl.StoreCrash(s, left)
			want(what, after, ok)
		}
		for _, call := range []func(impl.Store) (impl.Store, bool){impl.StoreSync, impl.StoreSave, impl.StoreMend} {
			after, ok := call(s)
			want(what, after, ok)
		}
	}
}

// Promise 93.

func TestNewStoresOpenWithTheirPlace(t *testing.T) {
	t.Parallel()
	for p := range fewPlaces() {
		wantNewStore(t, p)
	}
	for _, p := range edgePlaces() {
		wantNewStore(t, p)
	}
}

func wantNewStore(t *testing.T, p impl.Place) {
	t.Helper()
	s, ok := impl.StoreNew(p)
	wantStore(t, fmt.Sprint(p), s, impl.Store{Saved: placeTextBy(p)})
	if !ok || !impl.StoreOk(s) {
		t.Fatalf("%v: %#v, %v", p, s, ok)
	}
	d, _ := impl.DeskNew(p)
	wantOpen(t, fmt.Sprint(p), s, d)
	wantDesk(t, fmt.Sprint(p), d, impl.Desk{Now: p})
}

func TestNewStoresWrong(t *testing.T) {
	for what, p := range wrongPlaces() {
		s, ok := impl.StoreNew(p)
		wantStore(t, what, s, impl.Store{})
		if ok {
			t.Fatalf("%s: %v is a place", what, p)
		}
	}
}

// Promise 94.

func TestOpenedAgainItIsTheSame(t *testing.T) {
	t.Parallel()
	reader := newJournalReader()
	for s := range everyStore(3000, 60) {
		wantOpenedAgain(t, reader, s)
	}
}

func wantOpenedAgain(t *testing.T, reader journalReader, s impl.Store) {
	t.Helper()
	d := reader.open(s)
	wantOpen(t, "opened", s, d)
	wantOpen(t, "opened again", s, d)
	wantOpen(t, "mended", mended(t, s), d)
	wantOpen(t, "all sure", synced(t, s), d)
	if !impl.DeskOk(opened(t, s)) {
		t.Fatalf("%#v has no desk: %v", s, d)
	}
}

// A log may have more deeds than there may be lines at once.
func TestLogsOfManyDeeds(t *testing.T) {
	s := impl.Store{Saved: "2 . 3 00", Log: strings.Repeat("join 0 1\n", 111)}
	d := opened(t, s)
	wantPlace(t, "111 times joined or parted", d.Now, impl.Place{Net: []int{2, 1}, Kinds: 3, State: []int{0, 0}})
	wantNumber(t, "places of before", len(d.Past), 8)
	wantOpen(t, "200 steps", impl.Store{Saved: "2 01 3 10", Log: strings.Repeat("step\n", 200)}, impl.Desk{
		Now:  impl.Place{Net: []int{2, 1}, Kinds: 3, State: []int{0, 0}},
		Past: []impl.Place{{Net: []int{2, 1}, Kinds: 3, State: []int{1, 0}}, {Net: []int{2, 1}, Kinds: 3, State: []int{2, 1}}, {Net: []int{2, 1}, Kinds: 3, State: []int{0, 2}}},
	})
}

// Promise 95.

func TestWhatIsActedAtTheStoreIsDoneAtTheDesk(t *testing.T) {
	t.Parallel()
	reader := newJournalReader()
	for s, draw := range drawnStores(1500, 40) {
		for _, a := range append(drawnDeeds(draw, 6), wrongDeeds()[draw(len(wrongDeeds()))]) {
			wantActed(t, reader, s, a)
			wantActed(t, reader, mended(t, s), a)
		}
	}
	for _, s := range edgeStores() {
		for _, a := range []impl.Deed{{Kind: impl.DkJoin, A: 0, B: 1}, {Kind: impl.DkLight}, {Kind: impl.DkStep}, {Kind: impl.DkKinds, A: 4}, {Kind: impl.DkBack}, {Kind: 5}} {
			wantActed(t, reader, s, a)
		}
	}
}

func wantActed(t *testing.T, reader journalReader, s impl.Store, a impl.Deed) {
	t.Helper()
	before := reader.open(s)
	want, done := deskDoBy(before, a)
	_, read := reader.read(s.Log)
	after, acted := impl.StoreAct(s, a)
	if acted != (done && read == len(s.Log) && len(s.Log)+len(journalBy([]impl.Deed{a})) <= 1000) {
		t.Fatalf("%#v: %v is acted: %v", s, a, acted)
	}
	if !acted {
		wantStore(t, fmt.Sprint("not acted: ", a), after, s)
		return
	}
	wantStore(t, fmt.Sprint("acted: ", a), after, impl.Store{Saved: s.Saved, Log: s.Log + journalBy([]impl.Deed{a}), Sure: s.Sure})
	wantOpen(t, fmt.Sprint("acted: ", a), after, want)
	atDesk, _ := impl.DeskDo(opened(t, s), a)
	wantDesk(t, fmt.Sprint("acted: ", a), opened(t, after), atDesk)
}

// A log is filled up to its last byte, and no farther.
func TestLogsThatAreFull(t *testing.T) {
	t.Parallel()
	deeds := []impl.Deed{{Kind: impl.DkStep}, {Kind: impl.DkBack}, {Kind: impl.DkLight, A: 1}, {Kind: impl.DkKinds, A: 4}, {Kind: impl.DkJoin, A: 0, B: 1}}
	for bytes := 900; bytes <= 1000; bytes++ {
		s := impl.Store{Saved: "2 . 3 00", Log: fullLog(bytes), Sure: bytes / 2}
		wantNumber(t, "bytes of a log", len(s.Log), bytes)
		for _, a := range deeds {
			room := bytes+len(journalBy([]impl.Deed{a})) <= 1000
			after, acted := impl.StoreAct(s, a)
			if _, done := impl.DeskDo(opened(t, s), a); !done || acted != room || !impl.StoreOk(after) {
				t.Fatalf("%d bytes: %v is acted: %v, and done: %v", bytes, a, acted, done)
			}
			if !room {
				wantStore(t, "full", after, s)
			}
		}
	}
}

// A store without room has room again when it is saved.
func TestActedUntilTheLogIsFull(t *testing.T) {
	s, _ := impl.StoreNew(impl.Place{Net: []int{0, 0}, Kinds: 3, State: []int{0, 0}})
	join := impl.Deed{Kind: impl.DkJoin, A: 0, B: 1}
	count := 0
	for after, acted := impl.StoreAct(s, join); acted; after, acted = impl.StoreAct(s, join) {
		s = after
		count++
	}
	wantNumber(t, "lines of nine bytes", count, 111)
	saved, _ := impl.StoreSave(s)
	if _, acted := impl.StoreAct(saved, join); !acted {
		t.Fatalf("%#v has no room", saved)
	}
}

// Promise 96.

func TestWhatIsSureCannotBeLost(t *testing.T) {
	t.Parallel()
	for s := range everyStore(2000, 40) {
		wantSure(t, s)
	}
}

func wantSure(t *testing.T, s impl.Store) {
	t.Helper()
	sure := synced(t, s)
	wantStore(t, "made sure", sure, impl.Store{Saved: s.Saved, Log: s.Log, Sure: len(s.Log)})
	wantStore(t, "made sure again", synced(t, sure), sure)
	for left := -1; left <= len(s.Log)+1; left++ {
		after, ok := impl.StoreCrash(sure, left)
		if ok != (left == len(s.Log)) {
			t.Fatalf("%#v breaks down to %d bytes: %v", sure, left, ok)
		}
		if ok {
			wantStore(t, "broken down", after, sure)
		}
	}
}

// Promise 97.

func TestSavedIsSaved(t *testing.T) {
	t.Parallel()
	reader := newJournalReader()
	for s := range everyStore(3000, 40) {
		wantSaved(t, reader, s)
	}
}

func wantSaved(t *testing.T, reader journalReader, s impl.Store) {
	t.Helper()
	now := reader.open(s).Now
	saved, ok := impl.StoreSave(s)
	wantStore(t, "saved", saved, impl.Store{Saved: placeTextBy(now)})
	if !ok || !impl.StoreOk(saved) {
		t.Fatalf("%#v: %#v, %v", s, saved, ok)
	}
	wantOpen(t, "saved", saved, impl.Desk{Now: now})
	wantStore(t, "saved, and broken down", crashed(t, saved, 0), saved)
	if after, ok := impl.StoreCrash(saved, 1); ok || after != (impl.Store{}) {
		t.Fatalf("%#v breaks down to one byte: %#v", saved, after)
	}
	again, _ := impl.StoreSave(saved)
	wantStore(t, "saved again", again, saved)
}

// Promise 98.

func TestBrokenDownTwiceIsBrokenDownOnce(t *testing.T) {
	t.Parallel()
	for s := range drawnStores(60, 20) {
		for left := s.Sure; left <= len(s.Log); left++ {
			once := crashed(t, s, left)
			wantStore(t, "broken down", once, impl.Store{Saved: s.Saved, Log: s.Log[:left], Sure: s.Sure})
			if !impl.StoreOk(once) {
				t.Fatalf("%#v is no store", once)
			}
			wantStore(t, "broken down again", crashed(t, once, left), once)
			for fewer := s.Sure; fewer < left; fewer++ {
				wantStore(t, "broken down again to fewer bytes", crashed(t, once, fewer), crashed(t, s, fewer))
			}
		}
	}
}

func TestBreakdownsWrong(t *testing.T) {
	t.Parallel()
	for s := range drawnStores(2000, 30) {
		wrong := []int{math.MinInt, math.MaxInt, 1 << 32, 1<<32 + s.Sure, -1 << 32, -2, -1, s.Sure - 1, len(s.Log) + 1, len(s.Log) + 2}
		for left := range s.Sure {
			wrong = append(wrong, left)
		}
		for _, left := range wrong {
			if after, ok := impl.StoreCrash(s, left); ok || after != (impl.Store{}) {
				t.Fatalf("%#v breaks down to %d bytes: %#v, %v", s, left, after, ok)
			}
		}
	}
}

// Promise 99.

func TestWhatWasSureIsNeverLost(t *testing.T) {
	t.Parallel()
	for s := range drawnStores(150, 30) {
		wantNeverLost(t, s)
		for _, sure := range []int{0, len(s.Log)} {
			wantNeverLost(t, impl.Store{Saved: s.Saved, Log: s.Log, Sure: sure})
		}
	}
	wantNeverLost(t, impl.Store{Saved: "2 . 3 00", Log: fullLog(impl.MaxLog), Sure: 500})
}

func wantNeverLost(t *testing.T, s impl.Store) {
	t.Helper()
	all, _ := impl.ReadJournal(s.Log)
	sure, _ := impl.ReadJournal(s.Log[:s.Sure])
	saved, _ := impl.ReadPlace(s.Saved)
	for left := s.Sure; left <= len(s.Log); left++ {
		after := crashed(t, s, left)
		list, _ := impl.ReadJournal(after.Log)
		if len(list) < len(sure) || len(list) > len(all) || !slices.Equal(list, all[:len(list)]) || !slices.Equal(sure, list[:len(sure)]) {
			t.Fatalf("%#v, broken down to %d bytes: %v, of %v, with %v sure", s, left, list, all, sure)
		}
		d, _ := impl.DeskNew(saved)
		for part := range slices.Chunk(list, impl.MaxLines) {
			d, _ = impl.DeskRun(d, part)
		}
		wantOpen(t, fmt.Sprintf("%#v, broken down to %d bytes", s, left), after, d)
	}
}

// Promise 100.

// So few deeds leave room in the log.
func drawnWay(draw func(int) int) (impl.Place, []impl.Deed) {
	return drawnPlace(draw), drawnDeeds(draw, draw(60))
}

func TestByAnyWayItIsTheSamePlace(t *testing.T) {
	t.Parallel()
	draw := drawer()
	for range 400 {
		p, list := drawnWay(draw)
		s, _ := impl.StoreNew(p)
		d, _ := impl.DeskNew(p)
		for _, a := range list {
			var acted, done bool
			s, acted = impl.StoreAct(s, a)
			d, done = impl.DeskDo(d, a)
			wantOpen(t, fmt.Sprint("acted and done: ", a), s, d)
			if acted != done {
				t.Fatalf("%v is acted: %v, and done: %v", a, acted, done)
			}
			if draw(3) == 0 {
				s = synced(t, s)
			}
		}
	}
}

// Saved on the way, the desk forgets its places of before: where no deed goes back behind that, it is the same place.
func TestSavedOnTheWayItIsTheSamePlace(t *testing.T) {
	t.Parallel()
	draw := drawer()
	for range 400 {
		p, list := drawnWay(draw)
		s, _ := impl.StoreNew(p)
		d, _ := impl.DeskNew(p)
		since := 0
		for _, a := range list {
			if a.Kind == impl.DkBack && since == 0 {
				continue
			}
			var acted, done bool
			s, acted = impl.StoreAct(s, a)
			d, done = impl.DeskDo(d, a)
			wantPlace(t, fmt.Sprint("acted and done: ", a), opened(t, s).Now, d.Now)
			if acted != done {
				t.Fatalf("%v is acted: %v, and done: %v", a, acted, done)
			}
			since = len(opened(t, s).Past)
			switch draw(6) {
			case 0:
				s, _ = impl.StoreSave(s)
				wantPlace(t, "saved", opened(t, s).Now, d.Now)
				since = 0
			case 1:
				s = synced(t, s)
			}
		}
	}
}

// Promise 101.

func TestInTheEndAllIsThereAgain(t *testing.T) {
	t.Parallel()
	for s := range drawnStores(60, 25) {
		wantThereAgain(t, s, 1)
	}
	for _, p := range []string{"2 . 3 00", "1 . 5 4", "6 . 3 000001"} {
		wantThereAgain(t, impl.Store{Saved: p, Log: fullLog(impl.MaxLog), Sure: 3}, 83)
		wantThereAgain(t, impl.Store{Saved: p, Log: fullLog(impl.MaxLog - 20), Sure: 0}, 83)
	}
}

// wantThereAgain tries each number of bytes that may be left, or one of so many.
func wantThereAgain(t *testing.T, s impl.Store, stride int) {
	t.Helper()
	all, _ := impl.ReadJournal(s.Log)
	before := opened(t, s)
	for left := s.Sure; left <= len(s.Log); left += stride {
		after := mended(t, crashed(t, s, left))
		list, _ := impl.ReadJournal(after.Log)
		for _, a := range all[len(list):] {
			after, _ = impl.StoreAct(after, a)
		}
		wantOpen(t, fmt.Sprintf("%#v, broken down to %d bytes, mended, and acted once more", s, left), after, before)
	}
}

// Promise 104.

func TestMendedTheLogIsReadWhole(t *testing.T) {
	t.Parallel()
	reader := newJournalReader()
	for s := range everyStore(3000, 60) {
		wantMended(t, reader, s)
	}
}

func wantMended(t *testing.T, reader journalReader, s impl.Store) {
	t.Helper()
	_, bytes := reader.read(s.Log)
	whole := mended(t, s)
	wantStore(t, "mended", whole, impl.Store{Saved: s.Saved, Log: s.Log[:bytes], Sure: min(s.Sure, bytes)})
	if _, read := impl.ReadJournal(whole.Log); read != len(whole.Log) || !impl.StoreOk(whole) {
		t.Fatalf("%#v: of %#v %d bytes are read", s, whole, read)
	}
	wantStore(t, "mended again", mended(t, whole), whole)
	d := opened(t, whole)
	join := impl.Deed{Kind: impl.DkJoin, A: 0, B: 1}
	after, acted := impl.StoreAct(whole, join)
	if acted != (len(d.Now.Net) >= 2 && len(whole.Log)+9 <= 1000) {
		t.Fatalf("%#v: the first two nodes are joined, or no more: %v", whole, acted)
	}
	if acted {
		want, _ := deskDoBy(d, join)
		wantOpen(t, "joined, or no more", after, want)
	}
}

func TestStores(t *testing.T) {
	s, _ := impl.StoreNew(ringPlace())
	act := func(a impl.Deed) {
		t.Helper()
		after, ok := impl.StoreAct(s, a)
		if s = after; !ok {
			t.Fatalf("%v is not acted at %#v", a, s)
		}
	}
	act(impl.Deed{Kind: impl.DkLight})
	s = synced(t, s)
	act(impl.Deed{Kind: impl.DkStep})
	saved := "4 01,03,12,23 3 0122"
	wantStore(t, "acted", s, impl.Store{Saved: saved, Log: "light 0\nstep\n", Sure: 8})
	for left := range 15 {
		after, ok := impl.StoreCrash(s, left)
		if ok != (left >= 8 && left <= 13) {
			t.Fatalf("broken down to %d bytes: %#v, %v", left, after, ok)
		}
		if !ok {
			continue
		}
		want, log := "4 01,03,12,23 3 1122", "light 0\n"
		if left == 13 {
			want, log = "4 01,03,12,23 3 2200", "light 0\nstep\n"
		}
		if text := impl.PlaceText(opened(t, after).Now); text != want {
			t.Fatalf("broken down to %d bytes: %q, not %q", left, text, want)
		}
		wantStore(t, "mended", mended(t, after), impl.Store{Saved: saved, Log: log, Sure: 8})
	}
	// Bytes that are sure may be of a torn line, and are fewer when it is mended.
	torn := impl.Store{Saved: saved, Log: "light 0\nste", Sure: 10}
	wantStore(t, "mended", mended(t, torn), impl.Store{Saved: saved, Log: "light 0\n", Sure: 8})
	if after, ok := impl.StoreAct(torn, impl.Deed{Kind: impl.DkStep}); ok || after != torn {
		t.Fatalf("acted behind a torn line: %#v", after)
	}
	saving, _ := impl.StoreSave(s)
	wantStore(t, "saved", saving, impl.Store{Saved: "4 01,03,12,23 3 2200"})
}

// The general rules: results are new.

func TestOpenedDesksAreNew(t *testing.T) {
	for s := range drawnStores(300, 30) {
		wantApart(t, fmt.Sprintf("%#v", s), opened(t, s), opened(t, s))
	}
	wantApart(t, "joined and lit", opened(t, impl.Store{Saved: "2 . 3 00", Log: "join 0 1\nlight 0\nkinds 4\nback\nkinds 5\n"}))
}
